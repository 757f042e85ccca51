package hier_test

import (
	"strings"
	"testing"

	"kiln/api"
	"kiln/ast"
	"kiln/face"
	"kiln/hier"
)

// P8.3: all types are Good, and their classes there.
func TestKnown(t *testing.T) {
	long := "A" + strings.Repeat("x", api.MaxName)
	tab := hier.New(below("A", ""), below("B", "None"), below("int", ""), below("null", ""), below("a", ""), below("", ""), below(long, ""))
	right := []ast.Type{ast.Int(), ast.Bool(), array("int"), array("bool"), ast.Of("A"), array("A"), ast.Of("B"), array("B")}
	wrong := []ast.Type{ast.Of("C"), array("C"), ast.Of("None"), ast.Nothing(), array("null"), {}, array(""), ast.Of("a"), ast.Of(long), array(long), ast.Of("Int")}
	if !tab.Known() || !tab.Known(right...) {
		t.Error("not Known")
	}
	for _, x := range right {
		if !tab.Known(x) {
			t.Error(x)
		}
	}
	for _, x := range wrong {
		if tab.Known(x) || tab.Known(ast.Int(), x) || tab.Known(x, ast.Int()) || tab.Known(ast.Of("A"), x, array("A")) {
			t.Error(x)
		}
	}
}

// P8.3: the same; nothing where there may be objects; a class's where one above it is wanted.
func TestFits(t *testing.T) {
	tab := shapes()
	odd := []ast.Type{{}, array(""), ast.Of("x"), array("null"), ast.Of("None"), array("None")}
	plain := []ast.Type{ast.Int(), ast.Bool()}
	objects := []ast.Type{ast.Of("A"), ast.Of("B"), ast.Of("C"), ast.Of("D"), ast.Of("Z"), ast.Of("J"), ast.Of("I"), ast.Of("E"), ast.Of("F"), array("A"), array("B"), array("int"), array("bool"), ast.Nothing()}
	fits := map[[2]string]bool{{"B", "A"}: true, {"C", "A"}: true, {"D", "A"}: true, {"D", "C"}: true, {"J", "I"}: true, {"E", "F"}: true, {"F", "E"}: true,
		{"null", "null[]"}: true, {"null", "[]"}: true, {"null", "None"}: true, {"null", "None[]"}: true}
	for _, to := range objects {
		fits[[2]string{"null", to.Text()}] = true
	}
	all := append(append(odd, plain...), objects...)
	for _, from := range all {
		for _, to := range all {
			want := from == to || fits[[2]string{from.Text(), to.Text()}]
			if tab.Fits(from, to) != want {
				t.Errorf("%q, %q: not %v", from.Text(), to.Text(), want)
			}
		}
	}
}

// P8.4: what tells of a class that it may stand where it does.
func TestCheckOfTexts(t *testing.T) {
	a := "class A { field int f; method int m(A a) { } static method int s() { } method int over() { } }"
	for text, want := range map[string]api.Errno{
		"class X { }":                                                                  api.OK,
		"class X extends A { }":                                                        api.OK,
		"class X extends A { field X g; }":                                             api.OK,
		"class X extends A { method int m(A b) { } }":                                  api.OK,
		"class X extends A { field int m; method bool f() { } }":                       api.OK,
		"class X extends A { static method bool s(int x) { } }":                        api.OK,
		"class X extends A { method bool s(int x) { } }":                               api.OK,
		"class X extends A { static method bool m() { } }":                             api.OK,
		"class X { field A[] a; field X b; method X[] m(int[] x, bool[] y, A z) { } }": api.OK,
		"class X { field int m; method int m() { } }":                                  api.OK,
		"class X extends None { }":                                                     api.ErrName,
		"class X extends Below { }":                                                    api.ErrName,
		"class X extends X { }":                                                        api.ErrCycle,
		"class X extends Round { }":                                                    api.ErrCycle,
		"class X extends Self { }":                                                     api.ErrCycle,
		"class X { field int a; field bool a; }":                                       api.ErrTwice,
		"class X { field int a; field int b; field int a; }":                           api.ErrTwice,
		"class X { method int a() { } static method bool a() { } }":                    api.ErrTwice,
		"class X { method int a() { } method int b() { } method int a() { } }":         api.ErrTwice,
		"class X { field None a; }":                                                    api.ErrName,
		"class X { field None[] a; }":                                                  api.ErrName,
		"class X extends A { field int f; }":                                           api.ErrTwice,
		"class X extends Mid { field bool f; }":                                        api.ErrTwice,
		"class X extends Mid { field bool g; }":                                        api.ErrTwice,
		"class X { method None m() { } }":                                              api.ErrName,
		"class X { static method None[] m() { } }":                                     api.ErrName,
		"class X { method int m(int x, None y) { } }":                                  api.ErrName,
		"class X { static method int m(None[] x, int y) { } }":                         api.ErrName,
		"class X extends A { method bool m(A a) { } }":                                 api.ErrOver,
		"class X extends A { method int m() { } }":                                     api.ErrOver,
		"class X extends A { method int m(X a) { } }":                                  api.ErrOver,
		"class X extends A { method int m(A[] a) { } }":                                api.ErrOver,
		"class X extends A { method int m(A a, A b) { } }":                             api.ErrOver,
		"class X extends Mid { method bool m(A a) { } }":                               api.ErrOver,
		// Mid's over is static: the one that counts is A's.
		"class X extends Mid { method int over() { } }":  api.OK,
		"class X extends Mid { method bool over() { } }": api.ErrOver,
	} {
		tab := table(t, a, "class Mid extends A { field int g; static method bool over() { } }", "class Below extends None { }",
			"class Round extends Way { }", "class Way extends Round { }", "class Self extends Self { }", text)
		if got := tab.Check("X"); got != want {
			t.Errorf("%s: %d, not %d", text, got, want)
		}
		if tab.Check("") != api.ErrName || tab.Check("None") != api.ErrName || tab.Check("x") != api.ErrName || tab.Check("A") != api.OK {
			t.Error("others")
		}
	}
}

// P8.4: each fault, with one that the chapter names behind it: the first one is told.
func TestCheckOrder(t *testing.T) {
	none := ast.Of("None")
	twice := []ast.Var{field("a", ast.Int()), field("a", ast.Int())}
	for i, x := range []struct {
		f    face.Face
		want api.Errno
	}{
		{face.Face{Name: "X", Super: "None", Fields: twice}, api.ErrName},
		{face.Face{Name: "X", Super: "X", Fields: twice}, api.ErrCycle},
		{face.Face{Name: "X", Super: "X", Fields: []ast.Var{field("a", none)}}, api.ErrCycle},
		{face.Face{Name: "X", Super: "A", Fields: []ast.Var{field("0", none), field("a", ast.Int()), field("a", ast.Int())}}, api.ErrTwice},
		{face.Face{Name: "X", Super: "A", Fields: []ast.Var{field("a", none)}, Methods: []face.Sig{sig("m", none), sig("m", none)}}, api.ErrTwice},
		// A field's type comes ahead of its name, and both ahead of the next one.
		{face.Face{Name: "X", Super: "A", Fields: []ast.Var{field("f", none)}}, api.ErrName},
		{face.Face{Name: "X", Super: "A", Fields: []ast.Var{field("f", ast.Int()), field("g", none)}}, api.ErrTwice},
		{face.Face{Name: "X", Super: "A", Fields: []ast.Var{field("e", none), field("f", ast.Int())}}, api.ErrName},
		// Fields come ahead of methods.
		{face.Face{Name: "X", Super: "A", Fields: []ast.Var{field("f", ast.Int())}, Methods: []face.Sig{sig("n", none)}}, api.ErrTwice},
		{face.Face{Name: "X", Super: "A", Fields: []ast.Var{field("z", none)}, Methods: []face.Sig{sig("m", ast.Int())}}, api.ErrName},
		// A method's types come ahead of its name, and both ahead of the next one.
		{face.Face{Name: "X", Super: "A", Methods: []face.Sig{sig("m", none)}}, api.ErrName},
		{face.Face{Name: "X", Super: "A", Methods: []face.Sig{sig("m", ast.Int(), none)}}, api.ErrName},
		{face.Face{Name: "X", Super: "A", Methods: []face.Sig{sig("m", ast.Int()), sig("n", none)}}, api.ErrOver},
		{face.Face{Name: "X", Super: "A", Methods: []face.Sig{sig("l", none), sig("m", ast.Int())}}, api.ErrName},
		// Those of one name that don't stand side by side are none of a name twice.
		{face.Face{Name: "X", Fields: []ast.Var{field("a", ast.Int()), field("b", ast.Int()), field("a", ast.Int())}}, api.OK},
		{face.Face{Name: "X", Methods: []face.Sig{sig("a", ast.Int()), sig("b", ast.Int()), sig("a", ast.Int())}}, api.OK},
		{face.Face{Name: "X", Fields: []ast.Var{field("b", ast.Int()), field("a", ast.Int()), field("a", ast.Int())}}, api.ErrTwice},
		// Types that can't be are none that are Known.
		{face.Face{Name: "X", Fields: []ast.Var{field("a", ast.Nothing())}}, api.ErrName},
		{face.Face{Name: "X", Methods: []face.Sig{sig("m", ast.Type{})}}, api.ErrName},
		{face.Face{Name: "X", Methods: []face.Sig{static(sig("m", ast.Int(), ast.Nothing()))}}, api.ErrName},
		// Whether a name may be a class's isn't asked.
		{face.Face{Name: "X", Super: "a"}, api.OK},
	} {
		tab := hier.New(face.Face{Name: "A", Fields: []ast.Var{field("f", ast.Int())}, Methods: []face.Sig{sig("m", ast.Bool())}}, below("a", ""), x.f)
		for range 2 {
			if got := tab.Check("X"); got != x.want {
				t.Errorf("%d: %d, not %d", i, got, x.want)
			}
		}
	}
}

// P8.4: Check asks of a class's own face alone what it asks of members: what is wrong above it is told there.
func TestCheckLeavesOutThoseAbove(t *testing.T) {
	tab := hier.New(face.Face{Name: "A", Fields: []ast.Var{field("f", ast.Of("None")), field("f", ast.Int())}}, below("B", "A"))
	if tab.Check("A") != api.ErrTwice || tab.Check("B") != api.OK {
		t.Error(tab.Check("A"), tab.Check("B"))
	}
}
