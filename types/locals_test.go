package types_test

import (
	"strconv"
	"strings"
	"testing"

	"kiln/api"
	"kiln/ast"
	"kiln/face"
	"kiln/hier"
	"kiln/lex"
	"kiln/types"
)

// P9.2: where a local is there: behind its let, to the end of its block.
func TestLocalsThere(t *testing.T) {
	for body, e := range map[string]api.Errno{
		"let int q = 1; return q;":                                            api.OK,
		"let int q = @q; return 1;":                                           api.ErrName,
		"print @q; let int q = 1;":                                            api.ErrName,
		"if y { let int q = 1; print q; } return 1;":                          api.OK,
		"if y { let int q = 1; } return @q;":                                  api.ErrName,
		"if y { let int q = 1; } else { print @q; }":                          api.ErrName,
		"if y { } else { let int q = 1; } return @q;":                         api.ErrName,
		"while y { let int q = 1; } return @q;":                               api.ErrName,
		"while y { print @q; let int q = 1; }":                                api.ErrName,
		"let int q = 1; if y { q = 2; if y { print q; } } else { q = 3; }":    api.OK,
		"let int q = 1; while q < 2 { q = q + 1; }":                           api.OK,
		"if y { let int q = 1; } let int q = 2; return q;":                    api.OK,
		"if y { let int q = 1; } else { let bool q = y; } let C q = c;":       api.OK,
		"if y { let int q = 1; if q < 1 { let int r = q; } print q; }":        api.OK,
		"if y { let int q = 1; if q < 1 { let int r = q; } print @r; }":       api.ErrName,
		"if y { if y { let int q = 1; } let int q = 2; print q; } print @q;":  api.ErrName,
		"if y { let int q = 1; } else if @q == 1 { }":                         api.ErrName,
		"if y { } else if y { let int q = 1; print q; } else { print @q; }":   api.ErrName,
		"let int q = 1;\n@let int q = 2;":                                     api.ErrTwice,
		"let int q = 1;\n@let bool q = y;":                                    api.ErrTwice,
		"@let int n = 1;":                                                     api.ErrTwice,
		"if y { @let int n = 1; }":                                            api.ErrTwice,
		"let int q = 1; if y { if y { @let int q = 1; } }":                    api.ErrTwice,
		"let int q = 1; while y { @let C q = null; }":                         api.ErrTwice,
		"let int q = 1; if y { } else { @let int q = 1; }":                    api.ErrTwice,
		"if y { let int q = 1; @let int q = 1; }":                             api.ErrTwice,
		"if y { let int q = 1; } let int q = 1; @let int q = 1;":              api.ErrTwice,
		"let int m = 1; let int next = m; let int x = next; let int get = x;": api.OK,
		"return @m;":    api.ErrName,
		"return @next;": api.ErrName,
		"return @x;":    api.ErrName,
	} {
		wrong(t, inMethod(body), e)
	}
}

// P9.2: parameters are locals, one behind the other, at the method's place.
func TestParameters(t *testing.T) {
	for text, e := range map[string]api.Errno{
		"class T { method int m(int a, bool b) { if b { return a; } return 1; } }":    api.OK,
		"class T {\n @method int m(int a, bool b, C a) { return true; } }":            api.ErrTwice,
		"class T {\n @static method int m(int a, int a) { return true; } }":           api.ErrTwice,
		"class T { method int m(int a) { return 1; } method int n() { return @a; } }": api.ErrName,
	} {
		wrong(t, text, e)
	}
}

// many lays parts with numbers, from one on, below another.
func many(from, to int, part func(n string) string) string {
	var b strings.Builder
	for i := from; i < to; i++ {
		b.WriteString(part(strconv.Itoa(i)))
	}
	return b.String()
}

func let(n string) string    { return "let int q" + n + " = " + n + ";\n" }
func ifLet(n string) string  { return "if y { " + let(n) + "}\n" }
func sameIf(n string) string { return "if y { let int q = " + n + ";\n}\n" }

// P9.2: as many locals as a method may have, in whatever blocks, and one more.
func TestManyLocals(t *testing.T) {
	const head = "class T { method int m(bool y) {\n"
	for name, part := range map[string]func(n string) string{"flat": let, "in blocks": ifLet, "one name": sameIf} {
		full := head + many(1, api.MaxMembers, part)
		wrong(t, full+"return 1; } }", api.OK)
		wrong(t, full+"@let int more = 1; return 1; } }", api.ErrMany)
		wrong(t, full+"if y { print 1; while y { @let int more = 1; } } return 1; } }", api.ErrMany)
		wrong(t, full+"@let int y = 1; return 1; } }", api.ErrTwice)
		wrong(t, full+"@let None more = 1; return 1; } }", api.ErrName)
		wrong(t, full+"let int more = @y; return 1; } }", api.ErrType)
		wrong(t, full+"if y { } return 1; } method int m2(bool y) { "+many(1, api.MaxMembers, part)+" return 2; } }", api.OK)
		if t.Failed() {
			t.Fatal(name)
		}
	}
}

// P9.2: as many parameters as there may be, and one more, which only a tree made by hand has.
func TestManyParameters(t *testing.T) {
	m := ast.Method{At: api.Pos{Line: 2, Col: 3}, Name: "m", Ret: ast.Int()}
	for i := range api.MaxMembers {
		m.Params = append(m.Params, ast.Var{Name: "p" + strconv.Itoa(i), Type: ast.Int()})
	}
	check := func(m ast.Method) lex.Fault {
		c := ast.Class{At: api.Pos{Line: 1, Col: 1}, Name: "T", Methods: []ast.Method{m}}
		_, f := types.Check(hier.New(face.Of(c)), c)
		return f
	}
	if f := check(m); f != (lex.Fault{}) {
		t.Error(f)
	}
	one := ast.Expr{Kind: ast.Num, Num: 1, At: api.Pos{Line: 5, Col: 6}}
	let := ast.Stmt{Does: ast.Let, At: api.Pos{Line: 5, Col: 1}, Name: "q", Type: ast.Int(), E: []ast.Expr{one}}
	full := m
	full.Body = []ast.Stmt{let}
	if f := check(full); f != (lex.Fault{E: api.ErrMany, At: let.At}) {
		t.Error(f)
	}
	more := m
	more.Params = append(more.Params, ast.Var{Name: "q", Type: ast.Int()})
	if f := check(more); f != (lex.Fault{E: api.ErrMany, At: m.At}) {
		t.Error(f)
	}
	more.Params[api.MaxMembers].Name = "p0"
	if f := check(more); f != (lex.Fault{E: api.ErrTwice, At: m.At}) {
		t.Error(f)
	}
}
