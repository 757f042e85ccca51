package ast

import (
	"math"
	"testing"
)

// P5.1: the types that are there, and what is asked of them.
func TestTypes(t *testing.T) {
	if Int() != (Type{"int", false}) || Bool() != (Type{"bool", false}) || Nothing() != (Type{"null", false}) {
		t.Error(Int(), Bool(), Nothing())
	}
	for _, s := range []string{"A", "Zoo", "", "x", "int"} {
		if Of(s) != (Type{s, false}) {
			t.Error(Of(s))
		}
	}
	for _, x := range []struct {
		t             Type
		class, object bool
		text          string
	}{
		{Int(), false, false, "int"},
		{Bool(), false, false, "bool"},
		{Nothing(), false, true, "null"},
		{Of("A"), true, true, "A"},
		{Of("Z"), true, true, "Z"},
		{Of("Ab_1"), true, true, "Ab_1"},
		{Of(""), false, false, ""},
		{Of("a"), false, false, "a"},
		{Of("@"), false, false, "@"},
		{Of("["), false, false, "["},
		{Of("_A"), false, false, "_A"},
		{Of("É"), false, false, "É"},
		{Of("Null"), true, true, "Null"},
		{Of("null "), false, false, "null "},
		{Type{"int", true}, false, true, "int[]"},
		{Type{"bool", true}, false, true, "bool[]"},
		{Type{"A", true}, false, true, "A[]"},
		{Type{"null", true}, false, true, "null[]"},
		{Type{"", true}, false, true, "[]"},
	} {
		if x.t.Class() != x.class || x.t.Object() != x.object || x.t.Text() != x.text {
			t.Error(x.t, x.t.Class(), x.t.Object(), x.t.Text())
		}
		if x.t.Elem() != (Type{x.t.Name, false}) {
			t.Error(x.t, x.t.Elem())
		}
	}
}

func num(n int64) Expr      { return Expr{Kind: Num, Num: n} }
func local(s string) Expr   { return Expr{Kind: Local, Name: s} }
func kids(e ...Expr) []Expr { return e }

// P5.2: the numbers of kinds, as the chapter's list has them.
func TestKinds(t *testing.T) {
	for i, k := range []Kind{Num, True, False, Null, This, Local, Get, Call, Static, New, Array, Elem, Length, Neg, Not, Bin, And, Or, As, Is} {
		if int(k) != i+1 {
			t.Error(i, k)
		}
	}
	for i, d := range []Does{Let, Put, Do, If, While, Return, Print} {
		if int(d) != i+1 {
			t.Error(i, d)
		}
	}
}

// P5.2, P5.3: the text of each kind of expression, by its Kids, its Name and its Type.
func TestExprText(t *testing.T) {
	a, b, c := local("a"), local("b"), local("c")
	array := Type{"A", true}
	for _, x := range []struct {
		e    Expr
		want string
	}{
		{num(0), "0"},
		{num(7), "7"},
		{num(-7), "-7"},
		{num(math.MaxInt64), "9223372036854775807"},
		{num(math.MinInt64), "-9223372036854775808"},
		{Expr{Kind: True}, "true"},
		{Expr{Kind: False}, "false"},
		{Expr{Kind: Null}, "null"},
		{Expr{Kind: This}, "this"},
		{a, "a"},
		{Expr{Kind: Get, Name: "f", Kids: kids(a)}, "a.f"},
		{Expr{Kind: Call, Name: "m", Kids: kids(a)}, "a.m()"},
		{Expr{Kind: Call, Name: "m", Kids: kids(a, b)}, "a.m(b)"},
		{Expr{Kind: Call, Name: "m", Kids: kids(a, b, c)}, "a.m(b, c)"},
		{Expr{Kind: Static, Name: "m", Type: Of("C")}, "C.m()"},
		{Expr{Kind: Static, Name: "m", Type: Of("C"), Kids: kids(a)}, "C.m(a)"},
		{Expr{Kind: Static, Name: "m", Type: Of("C"), Kids: kids(a, b)}, "C.m(a, b)"},
		{Expr{Kind: New, Type: Of("C")}, "(new C)"},
		{Expr{Kind: Array, Type: Of("C"), Kids: kids(a)}, "new C[a]"},
		{Expr{Kind: Array, Type: Bool(), Kids: kids(num(3))}, "new bool[3]"},
		{Expr{Kind: Elem, Kids: kids(a, b)}, "a[b]"},
		{Expr{Kind: Length, Kids: kids(a)}, "a.length"},
		{Expr{Kind: Neg, Kids: kids(a)}, "(-a)"},
		{Expr{Kind: Neg, Kids: kids(num(-1))}, "(--1)"},
		{Expr{Kind: Not, Kids: kids(a)}, "(!a)"},
		{Expr{Kind: Bin, Name: "+", Kids: kids(a, b)}, "(a + b)"},
		{Expr{Kind: Bin, Name: "<=", Kids: kids(a, b)}, "(a <= b)"},
		{Expr{Kind: And, Kids: kids(a, b)}, "(a && b)"},
		{Expr{Kind: Or, Kids: kids(a, b)}, "(a || b)"},
		{Expr{Kind: As, Type: Of("C"), Kids: kids(a)}, "(a as C)"},
		{Expr{Kind: Is, Type: Of("C"), Kids: kids(a)}, "(a is C)"},
		// Of an expression's Type the Name alone is told.
		{Expr{Kind: Static, Name: "m", Type: array}, "A.m()"},
		{Expr{Kind: New, Type: array}, "(new A)"},
		{Expr{Kind: Array, Type: array, Kids: kids(a)}, "new A[a]"},
		{Expr{Kind: As, Type: array, Kids: kids(a)}, "(a as A)"},
		{Expr{Kind: Is, Type: array, Kids: kids(a)}, "(a is A)"},
		// What the checker says is not told.
		{Expr{Kind: Get, Name: "f", Kids: kids(a), Of: Int(), Owner: "C"}, "a.f"},
		// The chapter's example.
		{Expr{Kind: Bin, Name: "<", Kids: kids(Expr{Kind: Bin, Name: "+", Kids: kids(num(1), num(2))}, local("x"))}, "((1 + 2) < x)"},
	} {
		if got := x.e.Text(); got != x.want {
			t.Errorf("%q, not %q", got, x.want)
		}
	}
}

// P5.3: Kids that lack are null, those beyond are not told, and so is another Kind null.
func TestExprTextOfOddTrees(t *testing.T) {
	a, b, c := local("a"), local("b"), local("c")
	for kind, want := range map[Kind][3]string{
		Get:     {"null.f", "a.f", "a.f"},
		Call:    {"null.f()", "a.f()", "a.f(b, c)"},
		Static:  {"C.f()", "C.f(a)", "C.f(a, b, c)"},
		New:     {"(new C)", "(new C)", "(new C)"},
		Array:   {"new C[null]", "new C[a]", "new C[a]"},
		Elem:    {"null[null]", "a[null]", "a[b]"},
		Length:  {"null.length", "a.length", "a.length"},
		Neg:     {"(-null)", "(-a)", "(-a)"},
		Not:     {"(!null)", "(!a)", "(!a)"},
		Bin:     {"(null f null)", "(a f null)", "(a f b)"},
		And:     {"(null && null)", "(a && null)", "(a && b)"},
		Or:      {"(null || null)", "(a || null)", "(a || b)"},
		As:      {"(null as C)", "(a as C)", "(a as C)"},
		Is:      {"(null is C)", "(a is C)", "(a is C)"},
		Num:     {"5", "5", "5"},
		True:    {"true", "true", "true"},
		False:   {"false", "false", "false"},
		Null:    {"null", "null", "null"},
		This:    {"this", "this", "this"},
		Local:   {"f", "f", "f"},
		0:       {"null", "null", "null"},
		-1:      {"null", "null", "null"},
		Is + 1:  {"null", "null", "null"},
		1 << 40: {"null", "null", "null"},
	} {
		for i, k := range [][]Expr{nil, kids(a), kids(a, b, c)} {
			if got := (Expr{Kind: kind, Num: 5, Name: "f", Type: Of("C"), Kids: k}).Text(); got != want[i] {
				t.Errorf("%d: %q, not %q", kind, got, want[i])
			}
		}
	}
}

// P5.2, P5.3: statements, at several depths.
func TestStmtText(t *testing.T) {
	a, b, c := local("a"), local("b"), local("c")
	do := Stmt{Does: Do, E: kids(Expr{Kind: Call, Name: "m", Kids: kids(b)})}
	show := Stmt{Does: Print, E: kids(c)}
	for _, x := range []struct {
		s    Stmt
		deep int
		want string
	}{
		{Stmt{Does: Let, Name: "x", Type: Int(), E: kids(a)}, 0, "let int x = a;\n"},
		{Stmt{Does: Let, Name: "x", Type: Type{"C", true}, E: kids(a)}, 1, "\tlet C[] x = a;\n"},
		{Stmt{Does: Put, E: kids(a, b)}, 2, "\t\ta = b;\n"},
		{do, 3, "\t\t\tb.m();\n"},
		{do, -1, "b.m();\n"},
		{do, math.MinInt, "b.m();\n"},
		{Stmt{Does: Return, E: kids(a)}, 0, "return a;\n"},
		{show, 0, "print c;\n"},
		{Stmt{Does: While, E: kids(a)}, 0, "while a {\n}\n"},
		{Stmt{Does: While, E: kids(a), Then: []Stmt{do, show}}, 1, "\twhile a {\n\t\tb.m();\n\t\tprint c;\n\t}\n"},
		{Stmt{Does: If, E: kids(a)}, 1, "\tif a {\n\t}\n"},
		{Stmt{Does: If, E: kids(a), Then: []Stmt{do}}, 0, "if a {\n\tb.m();\n}\n"},
		{Stmt{Does: If, E: kids(a), Else: []Stmt{do}}, 0, "if a {\n} else {\n\tb.m();\n}\n"},
		{Stmt{Does: If, E: kids(a), Then: []Stmt{do}, Else: []Stmt{show, do}}, 1, "\tif a {\n\t\tb.m();\n\t} else {\n\t\tprint c;\n\t\tb.m();\n\t}\n"},
		{Stmt{Does: If, E: kids(a), Then: []Stmt{do}, Else: []Stmt{}}, 0, "if a {\n\tb.m();\n}\n"},
		{Stmt{Does: If, E: kids(a), Else: []Stmt{{Does: If, E: kids(b), Then: []Stmt{show}, Else: []Stmt{do}}}}, 0,
			"if a {\n} else {\n\tif b {\n\t\tprint c;\n\t} else {\n\t\tb.m();\n\t}\n}\n"},
		{Stmt{Does: While, E: kids(a), Then: []Stmt{{Does: While, E: kids(b), Then: []Stmt{show}}}}, 0, "while a {\n\twhile b {\n\t\tprint c;\n\t}\n}\n"},
		// Below 0 there are no tabs, and one more is one.
		{Stmt{Does: While, E: kids(a), Then: []Stmt{show}}, -3, "while a {\n\tprint c;\n}\n"},
		{Stmt{Does: If, E: kids(a), Then: []Stmt{do}, Else: []Stmt{show}}, math.MinInt, "if a {\n\tb.m();\n} else {\n\tprint c;\n}\n"},
	} {
		if got := x.s.Text(x.deep); got != x.want {
			t.Errorf("%q, not %q", got, x.want)
		}
	}
}

// P5.3: what statements lack is null, too; any other is told as a Do.
func TestStmtTextOfOddTrees(t *testing.T) {
	a, b, c := local("a"), local("b"), local("c")
	for does, want := range map[Does][3]string{
		Let:    {"let int x = null;\n", "let int x = a;\n", "let int x = a;\n"},
		Put:    {"null = null;\n", "a = null;\n", "a = b;\n"},
		Do:     {"null;\n", "a;\n", "a;\n"},
		If:     {"if null {\n}\n", "if a {\n}\n", "if a {\n}\n"},
		While:  {"while null {\n}\n", "while a {\n}\n", "while a {\n}\n"},
		Return: {"return null;\n", "return a;\n", "return a;\n"},
		Print:  {"print null;\n", "print a;\n", "print a;\n"},
		0:      {"null;\n", "a;\n", "a;\n"},
		-1:     {"null;\n", "a;\n", "a;\n"},
		99:     {"null;\n", "a;\n", "a;\n"},
	} {
		for i, e := range [][]Expr{nil, kids(a), kids(a, b, c)} {
			if got := (Stmt{Does: does, Name: "x", Type: Int(), E: e}).Text(0); got != want[i] {
				t.Errorf("%d: %q, not %q", does, got, want[i])
			}
		}
	}
	if got := (Stmt{Does: Do, E: kids(a), Then: []Stmt{{}}, Else: []Stmt{{}}}).Text(0); got != "a;\n" {
		t.Errorf("%q", got)
	}
	if got := (Stmt{Does: While, E: kids(a), Else: []Stmt{{Does: Print, E: kids(b)}}}).Text(0); got != "while a {\n} else {\n\tprint b;\n}\n" {
		t.Errorf("%q", got)
	}
}

// P5.3: classes, with and without one above them, fields and methods.
func TestClassText(t *testing.T) {
	for _, x := range []struct {
		c    Class
		want string
	}{
		{Class{}, "class  {\n}\n"},
		{Class{Name: "A"}, "class A {\n}\n"},
		{Class{Name: "A", Super: "B"}, "class A extends B {\n}\n"},
		{Class{Name: "A", Fields: []Var{{"x", Int()}, {"y", Type{"B", true}}}}, "class A {\n\tfield int x;\n\tfield B[] y;\n}\n"},
		{Class{Name: "A", Methods: []Method{{Name: "m", Ret: Bool()}, {Name: "n", Static: true, Ret: Type{"A", true}, Params: []Var{{"a", Int()}}}}},
			"class A {\n\tmethod bool m() {\n\t}\n\tstatic method A[] n(int a) {\n\t}\n}\n"},
		{full().c, "class C extends D {\n\tfield E f;\n\tfield int[] g;\n\tstatic method bool[] m(int a, C b) {\n" +
			"\t\tlet C[] x = new int[5];\n\t\tif (a + 1) {\n\t\t\tprint (a as C);\n\t\t} else {\n\t\t\ta = null;\n\t\t}\n\t}\n\tmethod int n() {\n\t\treturn 1;\n\t}\n}\n"},
	} {
		if got := x.c.Text(); got != x.want {
			t.Errorf("%q, not %q", got, x.want)
		}
	}
}

// P5.3, P5.4: trees as deep as the bound that the document names end soon.
func TestDeepTrees(t *testing.T) {
	const deep = 1 << 16
	build := func() Expr {
		e := num(1)
		for range deep {
			e = Expr{Kind: Bin, Name: "+", Kids: kids(num(2), e)}
		}
		return e
	}
	e, o := build(), build()
	if got := len(e.Text()); got != 6*deep+1 {
		t.Error(got)
	}
	if !e.Same(o) {
		t.Error("Same")
	}
}
