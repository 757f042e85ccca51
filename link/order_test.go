package link_test

import (
	"testing"

	"kiln/api"
	"kiln/ast"
	"kiln/class"
)

// P14.1: layer 8's errors of Check, of a face wherever its file stands.
func TestCheck(t *testing.T) {
	beside := []string{
		"class A { field int f; method int m(A a) { } static method int s() { } }",
		"class B extends A { field int g; }",
	}
	for text, want := range map[string]api.Errno{
		"class X { }":           api.OK,
		"class X extends A { }": api.OK,
		"class X extends B { method int m(A a) { } }":               api.OK,
		"class X extends B { static method bool s(X x) { } }":       api.OK,
		"class X extends B { static method bool m() { } }":          api.OK,
		"class X { field B b; field A[] a; method X x(X[] x) { } }": api.OK,
		"class X extends None { }":                                  api.ErrName,
		"class X { field None x; }":                                 api.ErrName,
		"class X { field None[] x; }":                               api.ErrName,
		"class X { method None m() { } }":                           api.ErrName,
		"class X { static method int m(int x, None[] y) { } }":      api.ErrName,
		"class X extends X { }":                                     api.ErrCycle,
		"class X extends A { field bool f; }":                       api.ErrTwice,
		"class X extends B { field bool f; }":                       api.ErrTwice,
		"class X extends B { field int g; }":                        api.ErrTwice,
		"class X extends A { method bool m(A a) { } }":              api.ErrOver,
		"class X extends B { method int m(X a) { } }":               api.ErrOver,
		"class X extends B { method int m() { } }":                  api.ErrOver,
	} {
		orders(files(t, append(beside, text)...), func(list []class.File) { fits(t, text, want, list...) })
	}
	orders(files(t, "class A extends B { }", "class B extends C { }", "class C extends A { }"), func(list []class.File) {
		fits(t, "round", api.ErrCycle, list...)
	})
	// What is wrong above a class is wrong where it stands, too: which of both comes first counts.
	below, above := file(t, "class B extends A { }"), file(t, "class A extends A { field None x; }")
	fits(t, "below first", api.ErrCycle, below, above)
	above = file(t, "class A { field None x; }")
	fits(t, "below first", api.ErrName, below, above)
}

// P14.1: whether files fit hangs on the faces of all, those behind them, too.
func TestBehind(t *testing.T) {
	over := file(t, "class X extends A { method int m() { } }")
	over.Pool.Fields = []class.Field{field("A", "f", ast.Int())}
	for text, want := range map[string]api.Errno{
		"class A { field int f; method int m() { } }":  api.OK,
		"class A { field int f; method bool m() { } }": api.ErrOver,
		"class A { field bool f; method int m() { } }": api.ErrLink,
		"class A extends X { field int f; }":           api.ErrCycle,
		"class B { field int f; }":                     api.ErrName,
	} {
		fits(t, text, want, over, file(t, text))
		fits(t, text, want, file(t, text), over)
	}
}

// fault is files with one thing wrong, that may stand beside those of others.
type fault struct {
	what string
	list []class.File
	want api.Errno
	late bool // told by the table of all faces
}

func loose(f class.File) class.File {
	f.Classes = []string{"None"}
	return f
}

// faults are of each kind; n makes the names of each others.
func faults(t *testing.T, n string) []fault {
	bad := file(t, "class Bad"+n+" { }")
	bad.Types = []ast.Type{ast.Nothing()}
	twin := file(t, "class Twin"+n+" { }")
	badTwin := twin
	badTwin.Nums = make([]int64, api.MaxCode+1)
	return []fault{
		{"bad", []class.File{bad}, api.ErrForm, false},
		{"bad, of a name that is there", []class.File{twin, badTwin}, api.ErrForm, false},
		{"bad, of a name that is there behind", []class.File{badTwin, twin}, api.ErrForm, false},
		{"twice", []class.File{twin, twin}, api.ErrTwice, false},
		{"twice, and below nothing", files(t, "class Lost"+n+" extends None { }", "class Lost"+n+" extends None { }"), api.ErrTwice, false},
		{"below nothing", files(t, "class Below"+n+" extends None { }"), api.ErrName, true},
		{"above itself", files(t, "class Round"+n+" extends Round"+n+" { }"), api.ErrCycle, true},
		{"a field again", files(t, "class Top"+n+" { field int f; }", "class Again"+n+" extends Top"+n+" { field int f; }"), api.ErrTwice, true},
		{"a method that doesn't fit", files(t, "class High"+n+" { method int m() { } }", "class Over"+n+" extends High"+n+" { method bool m() { } }"), api.ErrOver, true},
		{"loose", []class.File{loose(file(t, "class Loose"+n+" { }"))}, api.ErrLink, true},
		{"below nothing, and loose", []class.File{loose(file(t, "class Both"+n+" extends None { }"))}, api.ErrName, true},
		{"above itself, and loose", []class.File{loose(file(t, "class Both"+n+" extends Both"+n+" { }"))}, api.ErrCycle, true},
		{"a field of no type, and loose", []class.File{loose(file(t, "class Both"+n+" { field None x; }"))}, api.ErrName, true},
	}
}

// first is the fault that is told of two: those that the table tells come last, of others the first one.
func first(a, b fault) fault {
	if a.late && !b.late {
		return b
	}
	return a
}

// P14.1: of several faults: file by file those of form and name; only then, file by file, those by the table.
func TestOrder(t *testing.T) {
	between := file(t, "class Between { }")
	for _, a := range faults(t, "1") {
		fits(t, a.what, a.want, a.list...)
		for _, b := range faults(t, "2") {
			two := first(a, b)
			what := a.what + "; " + b.what
			list := append(append([]class.File{between}, a.list...), b.list...)
			fits(t, what, two.want, list...)
			for _, c := range faults(t, "3") {
				fits(t, what+"; "+c.what, first(two, c).want, append(list[:len(list):len(list)], c.list...)...)
			}
		}
	}
}
