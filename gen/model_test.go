package gen_test

import (
	"maps"
	"slices"
	"strconv"
	"strings"
	"testing"

	"kiln/api"
	"kiln/ast"
	"kiln/chance"
	"kiln/class"
	"kiln/face"
	"kiln/gen"
	"kiln/op"
)

// model is a method's instructions in the words of the chapter: each a line, as named tells it; a line that begins with @ is a place, to which jumps go.
type model struct {
	lines  []string
	places int
	locals int
}

// seen is which locals a block has: another block gets a copy.
type seen map[string]int

func (m *model) say(lines ...string) { m.lines = append(m.lines, lines...) }

func (m *model) place() string {
	m.places++
	return "@" + strconv.Itoa(m.places)
}

func (m *model) local(here seen, name string) string {
	here[name] = m.locals
	m.locals++
	return strconv.Itoa(here[name])
}

func modelOf(x ast.Method) *model {
	m, here := &model{}, seen{}
	if !x.Static {
		m.local(here, "this")
	}
	for _, p := range x.Params {
		m.local(here, p.Name)
	}
	m.block(here, x.Body)
	switch x.Ret.Text() {
	case "int":
		m.say("int 0", "return")
	case "bool":
		m.say("bool 0", "return")
	default:
		m.say("null", "return")
	}
	return m
}

func (m *model) block(outer seen, list []ast.Stmt) {
	here := maps.Clone(outer)
	for _, s := range list {
		m.stmt(here, s)
	}
}

func (m *model) stmt(here seen, s ast.Stmt) {
	switch s.Does {
	case ast.Let:
		m.expr(here, s.E[0])
		m.say("store " + m.local(here, s.Name))
	case ast.Put:
		m.put(here, s.E[0], s.E[1])
	case ast.Do:
		m.expr(here, s.E[0])
		m.say("pop")
	case ast.Print:
		m.expr(here, s.E[0])
		m.say("print")
	case ast.Return:
		m.expr(here, s.E[0])
		m.say("return")
	case ast.While:
		again, behind := m.place(), m.place()
		m.say(again)
		m.expr(here, s.E[0])
		m.say("unless " + behind)
		m.block(here, s.Then)
		m.say("jump "+again, behind)
	case ast.If:
		other, behind := m.place(), m.place()
		m.expr(here, s.E[0])
		m.say("unless " + other)
		m.block(here, s.Then)
		m.say("jump "+behind, other)
		m.block(here, s.Else)
		m.say(behind)
	}
}

func (m *model) put(here seen, at, value ast.Expr) {
	switch at.Kind {
	case ast.Local:
		m.expr(here, value)
		m.say("store " + strconv.Itoa(here[at.Name]))
	case ast.Get:
		m.expr(here, at.Kids[0])
		m.expr(here, value)
		m.say("put " + at.Owner + "." + at.Name + " " + at.Of.Text())
	case ast.Elem:
		m.expr(here, at.Kids[0])
		m.expr(here, at.Kids[1])
		m.expr(here, value)
		m.say("save " + at.Of.Text() + "[]")
	}
}

func (m *model) expr(here seen, e ast.Expr) {
	second, behind := m.place(), m.place()
	switch e.Kind {
	case ast.And:
		m.expr(here, e.Kids[0])
		m.say("unless " + second)
		m.expr(here, e.Kids[1])
		m.say("jump "+behind, second, "bool 0", behind)
		return
	case ast.Or:
		m.expr(here, e.Kids[0])
		m.say("unless "+second, "bool 1", "jump "+behind, second)
		m.expr(here, e.Kids[1])
		m.say(behind)
		return
	}
	for _, x := range e.Kids {
		m.expr(here, x)
	}
	switch e.Kind {
	case ast.Bin:
		m.bin(e.Name, e.Kids[0].Of.Text())
	case ast.Num:
		m.say("int " + strconv.FormatInt(e.Num, 10))
	case ast.Local:
		m.say("local " + strconv.Itoa(here[e.Name]))
	case ast.Get:
		m.say("get " + e.Owner + "." + e.Name + " " + e.Of.Text())
	case ast.Elem:
		m.say("load " + e.Of.Text() + "[]")
	default:
		m.say(map[ast.Kind]string{
			ast.True: "bool 1", ast.False: "bool 0", ast.Null: "null", ast.This: "local 0", ast.Call: "call " + e.Owner + "." + e.Name,
			ast.Static: "static " + e.Owner + "." + e.Name, ast.New: "new " + e.Type.Name, ast.Array: "array " + e.Type.Name + "[]",
			ast.Length: "length", ast.Neg: "neg", ast.Not: "not", ast.As: "cast " + e.Type.Name, ast.Is: "is " + e.Type.Name,
		}[e.Kind])
	}
}

func (m *model) bin(sign, first string) {
	same := "other"
	if first == "int" || first == "bool" {
		same = "same"
	}
	m.say(map[string]string{"+": "add", "-": "sub", "*": "mul", "/": "div", "%": "mod", "<": "less", "<=": "most", "==": same, "!=": same}[sign])
	if sign == "!=" {
		m.say("not")
	}
}

// text is the lines with their places as numbers.
func (m *model) text() string {
	at := map[string]string{}
	var lines []string
	for _, s := range m.lines {
		if strings.HasPrefix(s, "@") {
			at[s] = strconv.Itoa(len(lines))
		} else {
			lines = append(lines, s)
		}
	}
	for i, s := range lines {
		if name, where, _ := strings.Cut(s, " "); strings.HasPrefix(where, "@") {
			lines[i] = name + " " + at[where]
		}
	}
	return strings.Join(lines, "; ")
}

// poolModel is the parts of each kind that lines name, each where it came first; ints stay apart from locals by their names.
func poolModel(listings []string) map[rune][]string {
	parts := map[rune][]string{}
	for _, s := range listings {
		for _, line := range strings.Split(s, "; ") {
			name, part, _ := strings.Cut(line, " ")
			c, _ := op.Find(name)
			if kind := c.Pool(); strings.ContainsRune("nctfm", kind) && !slices.Contains(parts[kind], part) {
				parts[kind] = append(parts[kind], part)
			}
		}
	}
	return parts
}

// poolParts is all parts of a pool, named as in lines.
func poolParts(p class.Pool) map[rune][]string {
	parts := map[rune][]string{}
	for c, n := range map[op.Code]int{op.Int: len(p.Nums), op.New: len(p.Classes), op.Array: len(p.Types), op.Get: len(p.Fields), op.Call: len(p.Methods)} {
		for i := range n {
			_, part, _ := strings.Cut(named(p, op.Instr{Code: c, A: i}), " ")
			parts[c.Pool()] = append(parts[c.Pool()], part)
		}
	}
	return parts
}

// moves is how many words an instruction takes, and lays.
func moves(p class.Pool, i op.Instr) (int, int) {
	switch i.Code {
	case op.Int, op.Zero, op.Null, op.Local, op.New:
		return 0, 1
	case op.Store, op.Unless, op.Print, op.Pop, op.Return:
		return 1, 0
	case op.Add, op.Sub, op.Mul, op.Div, op.Mod, op.Less, op.Most, op.Same, op.Other, op.Load:
		return 2, 1
	case op.Put:
		return 2, 0
	case op.Save:
		return 3, 0
	case op.Call:
		return len(p.Methods[i.A].Params) + 1, 1
	case op.Static:
		return len(p.Methods[i.A].Params), 1
	case op.Jump:
		return 0, 0
	}
	return 1, 1
}

// highest is how high the stack becomes, gone through from the first instruction on, and from each to which nothing comes; as high by all ways, or the test fails.
func highest(t *testing.T, p class.Pool, b class.Body) int {
	t.Helper()
	ahead, most := make([]int, len(b.Code)), 0
	for i := range ahead {
		ahead[i] = -1
	}
	var walk func(at, high int)
	walk = func(at, high int) {
		for ahead[at] < 0 {
			ahead[at] = high
			i := b.Code[at]
			takes, lays := moves(p, i)
			if high < takes {
				t.Fatal("no word for", i.Text(), "at", at)
			}
			high += lays - takes
			most = max(most, high)
			if i.Code == op.Jump || i.Code == op.Unless {
				walk(i.A, high)
			}
			if i.Code.Ends() {
				if i.Code == op.Return && high != 0 {
					t.Fatal("words are left at", at)
				}
				return
			}
			at++
		}
		if ahead[at] != high {
			t.Fatal("not as high by all ways:", at)
		}
	}
	walk(0, 0)
	for at := range ahead {
		// Only statements are never come to, and ahead of them the stack is empty.
		if ahead[at] < 0 {
			walk(at, 0)
		}
	}
	return most
}

// P13.1 to P13.4: files of classes made by chance, held against the model.
func TestModel(t *testing.T) {
	codes := map[op.Code]int{}
	for seed := range uint64(300) {
		p := checked(t, parsed(t, chance.Texts(seed)...)...)
		for _, c := range p.list {
			f, e := gen.Class(p.tab, c)
			if e != api.OK || !f.Right() || !f.Face.Same(face.Of(c)) || len(f.Bodies) != len(c.Methods) {
				t.Fatal(seed, c.Name, e)
			}
			var listings []string
			for i, s := range f.Face.Methods {
				at := slices.IndexFunc(c.Methods, func(m ast.Method) bool { return m.Name == s.Name })
				m, b := modelOf(c.Methods[at]), f.Bodies[i]
				if got := listing(f.Pool, b); got != m.text() || b.Locals != m.locals {
					t.Fatalf("%d %s.%s: %d locals\n%s\n%d locals\n%s", seed, c.Name, s.Name, b.Locals, got, m.locals, m.text())
				}
				if high := highest(t, f.Pool, b); b.Stack != high {
					t.Fatal(seed, c.Name, s.Name, b.Stack, high)
				}
				listings = append(listings, m.text())
				for _, i := range b.Code {
					codes[i.Code]++
				}
			}
			got, want := poolParts(f.Pool), poolModel(listings)
			for _, kind := range "nctfm" {
				if !slices.Equal(got[kind], want[kind]) {
					t.Fatal(seed, c.Name, got[kind], want[kind])
				}
			}
			for _, m := range f.Pool.Methods {
				owner, _ := p.tab.Face(m.Class)
				if s, there := owner.Method(m.Name); !there || !s.Same(m.Sig) {
					t.Fatal(seed, c.Name, m)
				}
			}
		}
	}
	for c := op.Int; c <= op.Zero; c++ {
		if codes[c] < 40 {
			t.Error(c.Name(), codes[c])
		}
	}
}
