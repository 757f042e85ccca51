package parse

import (
	"fmt"
	"strings"
	"testing"

	"kiln/api"
	"kiln/ast"
	"kiln/lex"
)

func at(line, col int) api.Pos { return api.Pos{Line: line, Col: col} }

// class is that of a text without a fault.
func class(t *testing.T, s string) ast.Class {
	t.Helper()
	c, f := Class(s)
	if f != (lex.Fault{}) {
		t.Fatalf("%.200q: %v", s, f)
	}
	return c
}

// same holds two trees against each other, with their places; no list and an empty one are told alike.
func same(a, b any) bool { return fmt.Sprintf("%+v", a) == fmt.Sprintf("%+v", b) }

// inBody is a class with one method of these statements; shift is how far to the right they are.
func inBody(s string) string { return "class A{method int m(){" + s + "}}" }

var shift = strings.Index(inBody("#"), "#")

func body(t *testing.T, s string) []ast.Stmt {
	t.Helper()
	c := class(t, inBody(s))
	if len(c.Methods) != 1 {
		t.Fatalf("%.200q: %v", s, c)
	}
	return c.Methods[0].Body
}

func expr(t *testing.T, s string) ast.Expr {
	t.Helper()
	b := body(t, "return "+s+";")
	if len(b) != 1 || b[0].Does != ast.Return || len(b[0].E) != 1 {
		t.Fatalf("%.200q: %v", s, b)
	}
	return b[0].E[0]
}

// P6.1, P6.2: the rules of expressions: what binds to what.
func TestExprs(t *testing.T) {
	for s, want := range map[string]string{
		// prim
		"0": "0", "288230376151711744": "288230376151711744", "007": "7", "x": "x", "true": "true", "false": "false", "null": "null", "this": "this",
		"A.m()": "A.m()", "A.m(1)": "A.m(1)", "A.m(1, x, B.n())": "A.m(1, x, B.n())",
		"new A": "(new A)", "new A[1]": "new A[1]", "new int[x]": "new int[x]", "new bool[1 + 2]": "new bool[(1 + 2)]",
		"(1)": "1", "((x))": "x", "(((1 + 2)))": "(1 + 2)",
		// parts
		"x[1]": "x[1]", "x[1][y]": "x[1][y]", "x[y[z]]": "x[y[z]]", "x.length": "x.length", "x.f": "x.f", "x.f.g": "x.f.g", "x.m()": "x.m()", "x.m(1, 2)": "x.m(1, 2)",
		"x.m().n()": "x.m().n()", "x.m(y.n(z)).f[1].length": "x.m(y.n(z)).f[1].length", "x.length.f": "x.length.f",
		"1[2]": "1[2]", "1.f": "1.f", "null.m()": "null.m()", "true.length": "true.length", "this.f": "this.f", "(x).f": "x.f", "(x + y).f": "(x + y).f", "(x)[1]": "x[1]",
		"new A.f": "(new A).f", "(new A).f": "(new A).f", "new A.m()": "(new A).m()", "new A.length": "(new A).length",
		"new A[1][2]": "new A[1][2]", "(new A)[1]": "(new A)[1]", "new A[1].length": "new A[1].length", "new int[1].f": "new int[1].f", "A.m()[1]": "A.m()[1]", "A.m().f": "A.m().f",
		// unary
		"-1": "(-1)", "--1": "(-(-1))", "- - -x": "(-(-(-x)))", "!x": "(!x)", "!!x": "(!(!x))", "!-x": "(!(-x))", "-!x": "(-(!x))",
		"-x.f": "(-x.f)", "-x[1]": "(-x[1])", "!x.m()": "(!x.m())", "(-x).f": "(-x).f",
		"x as A": "(x as A)", "x is A": "(x is A)", "x as A as B": "((x as A) as B)", "x is A is B": "((x is A) is B)", "x as A is B as C": "(((x as A) is B) as C)",
		"-x as A": "(-(x as A))", "!x is A": "(!(x is A))", "(-x) as A": "((-x) as A)", "x.f as A": "(x.f as A)", "(x as A).f": "(x as A).f", "new A as B": "((new A) as B)",
		// prod
		"1 * 2": "(1 * 2)", "1 / 2": "(1 / 2)", "1 % 2": "(1 % 2)", "1 * 2 * 3": "((1 * 2) * 3)", "1 / 2 * 3 % 4": "(((1 / 2) * 3) % 4)", "1 * (2 / 3)": "(1 * (2 / 3))",
		"1 * -2": "(1 * (-2))", "-1 * 2": "((-1) * 2)", "x as A * y": "((x as A) * y)", "x * y as A": "(x * (y as A))",
		// sum
		"1 + 2": "(1 + 2)", "1 - 2": "(1 - 2)", "1 - 2 - 3": "((1 - 2) - 3)", "1 + 2 - 3 + 4": "(((1 + 2) - 3) + 4)", "1 - (2 - 3)": "(1 - (2 - 3))",
		"1 + 2 * 3": "(1 + (2 * 3))", "1 * 2 + 3": "((1 * 2) + 3)", "(1 + 2) * 3": "((1 + 2) * 3)", "1 - 2 * 3 - 4 / 5": "((1 - (2 * 3)) - (4 / 5))", "1--2": "(1 - (-2))",
		// cmp
		"1 == 2": "(1 == 2)", "1 != 2": "(1 != 2)", "1 < 2": "(1 < 2)", "1 <= 2": "(1 <= 2)", "1 + 2 < 3 + 4": "((1 + 2) < (3 + 4))", "(1 < 2) == (3 < 4)": "((1 < 2) == (3 < 4))",
		"x is A == y is B": "((x is A) == (y is B))", "!x == y": "((!x) == y)",
		// both
		"x && y": "(x && y)", "x && y && z": "((x && y) && z)", "x && (y && z)": "(x && (y && z))", "x == y && z < w": "((x == y) && (z < w))",
		// expr
		"x || y": "(x || y)", "x || y || z": "((x || y) || z)", "x || (y || z)": "(x || (y || z))", "x || y && z": "(x || (y && z))", "x && y || z": "((x && y) || z)", "(x || y) && z": "((x || y) && z)",
		"x || y && z || w": "((x || (y && z)) || w)", "a || b && c == d + e * -f.g": "(a || (b && (c == (d + (e * (-f.g))))))", "-f.g * e + d == c && b || a": "((((((-f.g) * e) + d) == c) && b) || a)",
		// expr where it stands in another
		"x[y || z]": "x[(y || z)]", "x.m(y || z, 1 == 2)": "x.m((y || z), (1 == 2))", "A.m(!x && y)": "A.m(((!x) && y))", "new A[x || y]": "new A[(x || y)]",
		// The document's examples.
		"1 + 2 < x": "((1 + 2) < x)", "x + 1 * 2": "(x + (1 * 2))",
	} {
		for _, text := range []string{s, strings.ReplaceAll(s, " ", "\n//)\n\t ")} {
			if got := expr(t, text).Text(); got != want {
				t.Errorf("%q: %q, not %q", text, got, want)
			}
		}
	}
}

// P6.2, P6.3: all parts of each kind of expression, with their places.
func TestExprTrees(t *testing.T) {
	col := func(n int) api.Pos { return at(1, shift+len("return ")+n) }
	x := func(n int) ast.Expr { return ast.Expr{Kind: ast.Local, At: col(n), Name: "x"} }
	y := func(n int) ast.Expr { return ast.Expr{Kind: ast.Local, At: col(n), Name: "y"} }
	kids := func(e ...ast.Expr) []ast.Expr { return e }
	for s, want := range map[string]ast.Expr{
		"12":             {Kind: ast.Num, At: col(1), Num: 12},
		"true":           {Kind: ast.True, At: col(1)},
		"false":          {Kind: ast.False, At: col(1)},
		"null":           {Kind: ast.Null, At: col(1)},
		"this":           {Kind: ast.This, At: col(1)},
		"x":              x(1),
		"((x))":          x(3),
		"x.f":            {Kind: ast.Get, At: col(2), Name: "f", Kids: kids(x(1))},
		"(x) . f":        {Kind: ast.Get, At: col(5), Name: "f", Kids: kids(x(2))},
		"x.m()":          {Kind: ast.Call, At: col(2), Name: "m", Kids: kids(x(1))},
		"x .m( y, x)":    {Kind: ast.Call, At: col(3), Name: "m", Kids: kids(x(1), y(7), x(10))},
		"Abc.m()":        {Kind: ast.Static, At: col(1), Name: "m", Type: ast.Of("Abc")},
		"(Abc.m(x, y))":  {Kind: ast.Static, At: col(2), Name: "m", Type: ast.Of("Abc"), Kids: kids(x(8), y(11))},
		"new Abc":        {Kind: ast.New, At: col(1), Type: ast.Of("Abc")},
		"new Abc[x]":     {Kind: ast.Array, At: col(1), Type: ast.Of("Abc"), Kids: kids(x(9))},
		"(new int [x])":  {Kind: ast.Array, At: col(2), Type: ast.Int(), Kids: kids(x(11))},
		"new bool[x]":    {Kind: ast.Array, At: col(1), Type: ast.Bool(), Kids: kids(x(10))},
		"new A[x][y]":    {Kind: ast.Elem, At: col(9), Kids: kids(ast.Expr{Kind: ast.Array, At: col(1), Type: ast.Of("A"), Kids: kids(x(7))}, y(10))},
		"(new A)[y]":     {Kind: ast.Elem, At: col(8), Kids: kids(ast.Expr{Kind: ast.New, At: col(2), Type: ast.Of("A")}, y(9))},
		"x[y]":           {Kind: ast.Elem, At: col(2), Kids: kids(x(1), y(3))},
		"x.length":       {Kind: ast.Length, At: col(2), Kids: kids(x(1))},
		"(-x)":           {Kind: ast.Neg, At: col(2), Kids: kids(x(3))},
		"! (x)":          {Kind: ast.Not, At: col(1), Kids: kids(x(4))},
		"x && y":         {Kind: ast.And, At: col(3), Kids: kids(x(1), y(6))},
		"(x || (y))":     {Kind: ast.Or, At: col(4), Kids: kids(x(2), y(8))},
		"x as Abc":       {Kind: ast.As, At: col(3), Type: ast.Of("Abc"), Kids: kids(x(1))},
		"x is Abc":       {Kind: ast.Is, At: col(3), Type: ast.Of("Abc"), Kids: kids(x(1))},
		"x.f.m(y)":       {Kind: ast.Call, At: col(4), Name: "m", Kids: kids(ast.Expr{Kind: ast.Get, At: col(2), Name: "f", Kids: kids(x(1))}, y(7))},
		"x - y - x":      {Kind: ast.Bin, At: col(7), Name: "-", Kids: kids(ast.Expr{Kind: ast.Bin, At: col(3), Name: "-", Kids: kids(x(1), y(5))}, x(9))},
		"x && y && x":    {Kind: ast.And, At: col(8), Kids: kids(ast.Expr{Kind: ast.And, At: col(3), Kids: kids(x(1), y(6))}, x(11))},
		"-x as A":        {Kind: ast.Neg, At: col(1), Kids: kids(ast.Expr{Kind: ast.As, At: col(4), Type: ast.Of("A"), Kids: kids(x(2))})},
		"x\n// y\n  + y": {Kind: ast.Bin, At: at(3, 3), Name: "+", Kids: kids(x(1), ast.Expr{Kind: ast.Local, At: at(3, 5), Name: "y"})},
	} {
		if got := expr(t, s); !same(got, want) {
			t.Errorf("%q:\n%+v, not\n%+v", s, got, want)
		}
	}
	for _, sign := range strings.Fields("+ - * / % == != < <=") {
		want := ast.Expr{Kind: ast.Bin, At: col(2), Name: sign, Kids: kids(x(1), y(2+len(sign)))}
		if got := expr(t, "x"+sign+"y"); !same(got, want) {
			t.Errorf("%q:\n%+v, not\n%+v", sign, got, want)
		}
	}
}

// P6.1, P6.2, P6.3: all parts of each kind of statement, with their places.
func TestStmtTrees(t *testing.T) {
	col := func(n int) api.Pos { return at(1, shift+n) }
	x := func(n int) ast.Expr { return ast.Expr{Kind: ast.Local, At: col(n), Name: "x"} }
	y := func(n int) ast.Expr { return ast.Expr{Kind: ast.Local, At: col(n), Name: "y"} }
	kids := func(e ...ast.Expr) []ast.Expr { return e }
	get := func(n int) ast.Expr { return ast.Expr{Kind: ast.Get, At: col(n + 1), Name: "f", Kids: kids(x(n))} }
	call := func(n int) ast.Expr { return ast.Expr{Kind: ast.Call, At: col(n + 1), Name: "m", Kids: kids(x(n))} }
	static := func(n int) ast.Expr {
		return ast.Expr{Kind: ast.Static, At: col(n), Name: "m", Type: ast.Of("B")}
	}
	print := func(n int) ast.Stmt { return ast.Stmt{Does: ast.Print, At: col(n), E: kids(x(n + 6))} }
	for s, want := range map[string][]ast.Stmt{
		"":                                   nil,
		"let int y = x;":                     {{Does: ast.Let, At: col(1), Name: "y", Type: ast.Int(), E: kids(x(13))}},
		"let bool y=x;":                      {{Does: ast.Let, At: col(1), Name: "y", Type: ast.Bool(), E: kids(x(12))}},
		"let Bb[] y = x;":                    {{Does: ast.Let, At: col(1), Name: "y", Type: ast.Type{Name: "Bb", Array: true}, E: kids(x(14))}},
		"let int [] y=x;":                    {{Does: ast.Let, At: col(1), Name: "y", Type: ast.Type{Name: "int", Array: true}, E: kids(x(14))}},
		"return x;":                          {{Does: ast.Return, At: col(1), E: kids(x(8))}},
		"print x;":                           {print(1)},
		"print (x); ":                        {{Does: ast.Print, At: col(1), E: kids(x(8))}},
		"x = y;":                             {{Does: ast.Put, At: col(1), E: kids(x(1), y(5))}},
		"(x) = (y);":                         {{Does: ast.Put, At: col(1), E: kids(x(2), y(8))}},
		"x.f = y;":                           {{Does: ast.Put, At: col(1), E: kids(get(1), y(7))}},
		"((x.f)) = y;":                       {{Does: ast.Put, At: col(1), E: kids(get(3), y(11))}},
		"x[y] = x;":                          {{Does: ast.Put, At: col(1), E: kids(ast.Expr{Kind: ast.Elem, At: col(2), Kids: kids(x(1), y(3))}, x(8))}},
		"x.m();":                             {{Does: ast.Do, At: col(1), E: kids(call(1))}},
		"(x.m());":                           {{Does: ast.Do, At: col(1), E: kids(call(2))}},
		" B.m();":                            {{Does: ast.Do, At: col(2), E: kids(static(2))}},
		"((B.m()));":                         {{Does: ast.Do, At: col(1), E: kids(static(3))}},
		"while x { }":                        {{Does: ast.While, At: col(1), E: kids(x(7))}},
		"while x{print x;print x;} print x;": {{Does: ast.While, At: col(1), E: kids(x(7)), Then: []ast.Stmt{print(9), print(17)}}, print(27)},
		"if x { }":                           {{Does: ast.If, At: col(1), E: kids(x(4))}},
		"if x { } else { }":                  {{Does: ast.If, At: col(1), E: kids(x(4))}},
		"if x{print x;}":                     {{Does: ast.If, At: col(1), E: kids(x(4)), Then: []ast.Stmt{print(6)}}},
		"if x{}else{print x;print x;}":       {{Does: ast.If, At: col(1), E: kids(x(4)), Else: []ast.Stmt{print(12), print(20)}}},
		"if x{print x;}else{print x;}":       {{Does: ast.If, At: col(1), E: kids(x(4)), Then: []ast.Stmt{print(6)}, Else: []ast.Stmt{print(20)}}},
		"if x{} else if y{}": {{Does: ast.If, At: col(1), E: kids(x(4)), Else: []ast.Stmt{
			{Does: ast.If, At: col(13), E: kids(y(16))}}}},
		"if x{}else if y{print x;}else if x{}else{print x;} print x;": {{Does: ast.If, At: col(1), E: kids(x(4)), Else: []ast.Stmt{
			{Does: ast.If, At: col(12), E: kids(y(15)), Then: []ast.Stmt{print(17)}, Else: []ast.Stmt{
				{Does: ast.If, At: col(31), E: kids(x(34)), Else: []ast.Stmt{print(42)}}}}}}, print(52)},
		"if x{if y{}else{print x;}}": {{Does: ast.If, At: col(1), E: kids(x(4)), Then: []ast.Stmt{
			{Does: ast.If, At: col(6), E: kids(y(9)), Else: []ast.Stmt{print(17)}}}}},
	} {
		if got := body(t, s); !same(got, want) {
			t.Errorf("%q:\n%+v, not\n%+v", s, got, want)
		}
	}
}

// P6.1, P6.2, P6.3: all parts of classes, with their places.
func TestClassTrees(t *testing.T) {
	array := func(name string) ast.Type { return ast.Type{Name: name, Array: true} }
	for s, want := range map[string]ast.Class{
		"class A{}":                {At: at(1, 1), Name: "A"},
		"\n class A { } // }":      {At: at(2, 2), Name: "A"},
		"class Ab extends Cd_1 {}": {At: at(1, 1), Name: "Ab", Super: "Cd_1"},
		"class A extends A {}":     {At: at(1, 1), Name: "A", Super: "A"},
		"class A{field int x;field bool[] y;field B z;field B[] x;}": {At: at(1, 1), Name: "A", Fields: []ast.Var{
			{Name: "x", Type: ast.Int()}, {Name: "y", Type: array("bool")}, {Name: "z", Type: ast.Of("B")}, {Name: "x", Type: array("B")}}},
		"class A{method int m(){}static method B[] m(int x){}method A n(int[] x,B y,bool x){}}": {At: at(1, 1), Name: "A", Methods: []ast.Method{
			{At: at(1, 9), Name: "m", Ret: ast.Int()},
			{At: at(1, 25), Name: "m", Static: true, Ret: array("B"), Params: []ast.Var{{Name: "x", Type: ast.Int()}}},
			{At: at(1, 53), Name: "n", Ret: ast.Of("A"), Params: []ast.Var{{Name: "x", Type: array("int")}, {Name: "y", Type: ast.Of("B")}, {Name: "x", Type: ast.Bool()}}}}},
		"class A\n{\n\tstatic\n\tmethod int m() { }\n\tfield int x;\n\tmethod int n() { return 1; }\n\tfield int y;\n}": {At: at(1, 1), Name: "A",
			Fields: []ast.Var{{Name: "x", Type: ast.Int()}, {Name: "y", Type: ast.Int()}},
			Methods: []ast.Method{{At: at(3, 2), Name: "m", Static: true, Ret: ast.Int()},
				{At: at(6, 2), Name: "n", Ret: ast.Int(), Body: []ast.Stmt{{Does: ast.Return, At: at(6, 19), E: []ast.Expr{{Kind: ast.Num, At: at(6, 26), Num: 1}}}}}}},
	} {
		if got := class(t, s); !same(got, want) {
			t.Errorf("%q:\n%+v, not\n%+v", s, got, want)
		}
	}
}

// P6.2: the chapter's example.
func TestExample(t *testing.T) {
	b := class(t, "class A { method int m(int x) { return x + 1 * 2; } }").Methods[0].Body
	if len(b) != 1 || b[0].Does != ast.Return || b[0].E[0].Text() != "(x + (1 * 2))" {
		t.Error(b)
	}
	if e := b[0].E[0]; e.Kind != ast.Bin || e.Name != "+" || e.Kids[0].Kind != ast.Local || e.Kids[1].Kind != ast.Bin || e.Kids[1].Name != "*" {
		t.Error(e)
	}
}

// P6.1: texts as long as they may be, of parts that stand side by side, are no fault.
func TestLong(t *testing.T) {
	for _, s := range []string{".f", "[0]", ".length", " as A", "+1", "*1", "&&x", "||x", ".m()"} {
		long := strings.Repeat(s, (api.MaxText-len(inBody("return x;")))/len(s))
		e := expr(t, "x"+long)
		n := 0
		for e.Kind != ast.Local {
			e = e.Kids[0]
			n++
		}
		if n != len(long)/len(s) {
			t.Error(s, n)
		}
	}
	long := strings.Repeat("x=1;", (api.MaxText-len(inBody("")))/4)
	if b := body(t, long); len(b) != len(long)/4 {
		t.Error(len(b))
	}
}

// P6.1 (rule 4): answers are of memory of their own.
func TestAnswersAreNew(t *testing.T) {
	const s = "class A { field int x; method int m(int a, int b) { A.m(a, b); x = x.m(a, b); if a { a.m(); } else { b.m(); } } }"
	one, two := class(t, s), class(t, s)
	spoil(one)
	if !same(two, class(t, s)) {
		t.Error("one answer turned another one")
	}
}

func spoil(c ast.Class) {
	clear(c.Fields)
	for _, m := range c.Methods {
		clear(m.Params)
		for _, s := range m.Body {
			for _, e := range s.E {
				clear(e.Kids)
			}
			clear(s.E)
			clear(s.Then)
			clear(s.Else)
		}
		clear(m.Body)
	}
	clear(c.Methods)
}
