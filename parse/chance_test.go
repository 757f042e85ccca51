package parse

import (
	"math/rand"
	"strconv"
	"strings"
	"testing"

	"kiln/api"
	"kiln/ast"
)

// maker lays a class by chance as text, token by token, and builds beside it the tree, with places, that the text means.
type maker struct {
	*rand.Rand
	text      strings.Builder
	tokens    []string
	places    []api.Pos
	line, col int
	room      int // how many more parts there may be
}

// put lays a token behind some blanks, and tells where.
func (m *maker) put(token string) api.Pos {
	for _, c := range m.blank() {
		m.text.WriteRune(c)
		m.col++
		if c == '\n' {
			m.line++
			m.col = 1
		}
	}
	p := at(m.line, m.col)
	m.text.WriteString(token)
	m.tokens = append(m.tokens, token)
	m.places = append(m.places, p)
	m.col += len(token)
	return p
}

func (m *maker) blank() string {
	return []string{" ", " ", " ", "  ", "\t", "\n", "\n\t", "\r\n", " // if x {\n", " //\n\n "}[m.Intn(10)]
}

func (m *maker) chance(percent int) bool { return m.Intn(100) < percent }

// more tells whether a list goes on.
func (m *maker) more(percent int) bool {
	m.room--
	return m.room > 0 && m.chance(percent)
}

func (m *maker) lower() string { return []string{"x", "y", "long_Name9", "m", "classes"}[m.Intn(5)] }
func (m *maker) upper() string { return []string{"A", "B", "Long_name9"}[m.Intn(3)] }

func (m *maker) base() ast.Type {
	name := []string{"int", "bool", m.upper()}[m.Intn(3)]
	m.put(name)
	return ast.Type{Name: name}
}

func (m *maker) variable() ast.Var {
	v := ast.Var{Type: m.base(), Name: m.lower()}
	if m.chance(30) {
		m.put("[")
		m.put("]")
		v.Type.Array = true
	}
	m.put(v.Name)
	return v
}

func (m *maker) class() ast.Class {
	c := ast.Class{At: m.put("class"), Name: m.upper()}
	m.put(c.Name)
	if m.chance(40) {
		m.put("extends")
		c.Super = m.upper()
		m.put(c.Super)
	}
	m.put("{")
	for m.more(85) {
		if m.chance(40) {
			m.put("field")
			c.Fields = append(c.Fields, m.variable())
			m.put(";")
		} else {
			c.Methods = append(c.Methods, m.method())
		}
	}
	m.put("}")
	return c
}

func (m *maker) method() ast.Method {
	f := ast.Method{Static: m.chance(40)}
	if f.Static {
		f.At = m.put("static")
		m.put("method")
	} else {
		f.At = m.put("method")
	}
	v := m.variable()
	f.Ret, f.Name = v.Type, v.Name
	m.put("(")
	for m.more(40) {
		if len(f.Params) > 0 {
			m.put(",")
		}
		f.Params = append(f.Params, m.variable())
	}
	m.put(")")
	f.Body = m.block()
	return f
}

func (m *maker) block() []ast.Stmt {
	m.put("{")
	var all []ast.Stmt
	for m.more(65) {
		all = append(all, m.stmt())
	}
	m.put("}")
	return all
}

func (m *maker) stmt() ast.Stmt {
	switch m.Intn(7) {
	case 0:
		s := ast.Stmt{Does: ast.Let, At: m.put("let")}
		v := m.variable()
		s.Type, s.Name = v.Type, v.Name
		m.put("=")
		return m.end(s)
	case 1:
		return m.end(ast.Stmt{Does: ast.Return, At: m.put("return")})
	case 2:
		return m.end(ast.Stmt{Does: ast.Print, At: m.put("print")})
	case 3:
		return m.cond()
	case 4:
		s := ast.Stmt{Does: ast.While, At: m.put("while"), E: []ast.Expr{m.expr()}}
		s.Then = m.block()
		return s
	case 5:
		e, p := m.wrapped(m.place)
		m.put("=")
		return m.end(ast.Stmt{Does: ast.Put, At: p, E: []ast.Expr{e}})
	}
	e, p := m.wrapped(m.called)
	m.put(";")
	return ast.Stmt{Does: ast.Do, At: p, E: []ast.Expr{e}}
}

// end is a statement with its last expression, and the mark behind it.
func (m *maker) end(s ast.Stmt) ast.Stmt {
	s.E = append(s.E, m.expr())
	m.put(";")
	return s
}

func (m *maker) cond() ast.Stmt {
	s := ast.Stmt{Does: ast.If, At: m.put("if"), E: []ast.Expr{m.expr()}}
	s.Then = m.block()
	if m.chance(50) {
		m.put("else")
		if m.chance(50) {
			s.Else = []ast.Stmt{m.cond()}
		} else {
			s.Else = m.block()
		}
	}
	return s
}

// wrapped is a part in brackets, or in none, and where its first token is.
func (m *maker) wrapped(part func() ast.Expr) (ast.Expr, api.Pos) {
	if m.more(20) {
		p := m.put("(")
		e, _ := m.wrapped(part)
		m.put(")")
		return e, p
	}
	n := len(m.places)
	e := part()
	return e, m.places[n]
}

// place is a Local, a Get or an Elem.
func (m *maker) place() ast.Expr {
	switch m.Intn(3) {
	case 0:
		return m.named(ast.Local)
	case 1:
		return m.get(m.parts())
	}
	return m.elem(m.parts())
}

// called is a Call or a Static.
func (m *maker) called() ast.Expr {
	if m.chance(40) {
		return m.static()
	}
	return m.call(m.parts())
}

func (m *maker) expr() ast.Expr { return m.left(m.both, "||") }

func (m *maker) both() ast.Expr { return m.left(m.cmp, "&&") }

func (m *maker) cmp() ast.Expr {
	e := m.sum()
	if m.more(20) {
		e = m.two(e, m.sum, "==", "!=", "<", "<=")
	}
	return e
}

func (m *maker) sum() ast.Expr  { return m.left(m.prod, "+", "-") }
func (m *maker) prod() ast.Expr { return m.left(m.unary, "*", "/", "%") }

func (m *maker) left(part func() ast.Expr, signs ...string) ast.Expr {
	e := part()
	for m.more(15) {
		e = m.two(e, part, signs...)
	}
	return e
}

func (m *maker) two(a ast.Expr, part func() ast.Expr, signs ...string) ast.Expr {
	e := ast.Expr{Kind: ast.Bin, Name: signs[m.Intn(len(signs))]}
	e.At = m.put(e.Name)
	e.Kids = []ast.Expr{a, part()}
	if e.Name == "&&" || e.Name == "||" {
		e.Kind = map[string]ast.Kind{"&&": ast.And, "||": ast.Or}[e.Name]
		e.Name = ""
	}
	return e
}

func (m *maker) unary() ast.Expr {
	if m.more(10) {
		return ast.Expr{Kind: ast.Neg, At: m.put("-"), Kids: []ast.Expr{m.unary()}}
	}
	if m.more(10) {
		return ast.Expr{Kind: ast.Not, At: m.put("!"), Kids: []ast.Expr{m.unary()}}
	}
	e := m.parts()
	for m.more(8) {
		if m.chance(50) {
			e = ast.Expr{Kind: ast.As, At: m.put("as"), Kids: []ast.Expr{e}}
		} else {
			e = ast.Expr{Kind: ast.Is, At: m.put("is"), Kids: []ast.Expr{e}}
		}
		e.Type = ast.Of(m.upper())
		m.put(e.Type.Name)
	}
	return e
}

func (m *maker) parts() ast.Expr {
	e := m.prim()
	for m.more(25) {
		switch m.Intn(4) {
		case 0:
			e = m.elem(e)
		case 1:
			e = ast.Expr{Kind: ast.Length, At: m.put("."), Kids: []ast.Expr{e}}
			m.put("length")
		case 2:
			e = m.get(e)
		case 3:
			e = m.call(e)
		}
	}
	return e
}

// elem is a part of an array; behind new and an Upper alone the bracket would begin an Array: a dot stands between them.
func (m *maker) elem(of ast.Expr) ast.Expr {
	if of.Kind == ast.New && m.tokens[len(m.tokens)-1] != ")" {
		of = m.get(of)
	}
	e := ast.Expr{Kind: ast.Elem, At: m.put("["), Kids: []ast.Expr{of, m.expr()}}
	m.put("]")
	return e
}

func (m *maker) get(of ast.Expr) ast.Expr {
	e := ast.Expr{Kind: ast.Get, At: m.put("."), Name: m.lower(), Kids: []ast.Expr{of}}
	m.put(e.Name)
	return e
}

func (m *maker) call(of ast.Expr) ast.Expr {
	e := m.get(of)
	e.Kind = ast.Call
	e.Kids = append(e.Kids, m.args()...)
	return e
}

func (m *maker) static() ast.Expr {
	class := m.upper()
	e := ast.Expr{Kind: ast.Static, At: m.put(class), Type: ast.Of(class), Name: m.lower()}
	m.put(".")
	m.put(e.Name)
	e.Kids = m.args()
	return e
}

func (m *maker) args() []ast.Expr {
	var all []ast.Expr
	m.put("(")
	for m.more(50) {
		if len(all) > 0 {
			m.put(",")
		}
		all = append(all, m.expr())
	}
	m.put(")")
	return all
}

func (m *maker) named(k ast.Kind) ast.Expr {
	e := ast.Expr{Kind: k, Name: m.lower()}
	e.At = m.put(e.Name)
	return e
}

func (m *maker) prim() ast.Expr {
	switch m.Intn(12) {
	case 0:
		return ast.Expr{Kind: ast.True, At: m.put("true")}
	case 1:
		return ast.Expr{Kind: ast.False, At: m.put("false")}
	case 2:
		return ast.Expr{Kind: ast.Null, At: m.put("null")}
	case 3:
		return ast.Expr{Kind: ast.This, At: m.put("this")}
	case 4, 5:
		n := m.Int63n(1 << m.Intn(59))
		return ast.Expr{Kind: ast.Num, At: m.put(strconv.FormatInt(n, 10)), Num: n}
	case 6:
		e := ast.Expr{Kind: ast.New, At: m.put("new"), Type: ast.Of(m.upper())}
		m.put(e.Type.Name)
		return e
	case 7:
		e := ast.Expr{Kind: ast.Array, At: m.put("new"), Type: m.base()}
		m.put("[")
		e.Kids = []ast.Expr{m.expr()}
		m.put("]")
		return e
	case 8:
		return m.static()
	case 9:
		m.put("(")
		e := m.expr()
		m.put(")")
		return e
	}
	return m.named(ast.Local)
}

func newMaker(r *rand.Rand) *maker {
	return &maker{Rand: r, line: 1, col: 1, room: 5 + r.Intn(400)}
}

// P6.1, P6.2, P6.3: classes by chance are told as they were made, each part where it was laid; and so is what their trees are as text.
func TestMadeByChance(t *testing.T) {
	r := rand.New(rand.NewSource(6))
	deep := 0
	for range 3000 {
		m := newMaker(r)
		want := m.class()
		s := m.text.String()
		got, f := Class(s)
		if f.E == api.ErrDeep {
			deep++
			continue
		}
		if f.E != api.OK || !same(got, want) {
			t.Fatalf("%.3000q: %v\n%.3000s, not\n%.3000s", s, f, got.Text(), want.Text())
		}
		again, f := Class(got.Text())
		if f.E != api.OK || !again.Same(got) {
			t.Fatalf("%.3000q: %v", got.Text(), f)
		}
	}
	if deep > 30 {
		t.Error(deep)
	}
}
