package eval_test

import (
	"reflect"
	"slices"
	"testing"

	"kiln/api"
	"kiln/ast"
	"kiln/eval"
	"kiln/face"
	"kiln/hier"
	"kiln/parse"
	"kiln/types"
)

// program is classes that layer 9 tells, and the table of their faces.
type program struct {
	tab  *hier.Table
	list []ast.Class
}

func made(t testing.TB, texts ...string) program {
	t.Helper()
	var list []ast.Class
	for _, s := range texts {
		c, f := parse.Class(s)
		if f.E != api.OK {
			t.Fatalf("%v in %s", f, s)
		}
		list = append(list, c)
	}
	return checked(t, list...)
}

func checked(t testing.TB, list ...ast.Class) program {
	t.Helper()
	var faces []face.Face
	for _, c := range list {
		faces = append(faces, face.Of(c))
	}
	p := program{tab: hier.New(faces...)}
	for _, c := range list {
		x, f := types.Check(p.tab, c)
		if f.E != api.OK {
			t.Fatalf("%v in %s", f, c.Text())
		}
		p.list = append(p.list, x)
	}
	return p
}

// much is more than any test needs, unless it is one of bounds.
func much() eval.Bounds { return eval.Bounds{Steps: 1000000, Parts: 100000, Deep: 1000} }

// run runs what must not be refused.
func (p program) run(t testing.TB, class, method string, b eval.Bounds, args ...int64) eval.Result {
	t.Helper()
	r, e := eval.Run(p.tab, p.list, class, method, args, b)
	if e != api.OK {
		t.Fatalf("%s.%s%v: %v", class, method, args, e)
	}
	return r
}

func num(n int64, out ...int64) eval.Result { return eval.Result{Num: n, Out: out} }

func trapped(x api.Trap, out ...int64) eval.Result { return eval.Result{Trap: x, Out: out} }

// same is Same without Same.
func same(a, b eval.Result) bool {
	return a.Trap == b.Trap && a.Num == b.Num && slices.Equal(a.Out, b.Out)
}

// The chapter's example.
func TestExample(t *testing.T) {
	p := made(t, "class A { static method int m(int x) { print x; return x * 2; } }")
	if r := p.run(t, "A", "m", much(), 4); !same(r, num(8, 4)) {
		t.Error(r)
	}
}

func several(t testing.TB) program {
	return made(t,
		`class A {
			static method int one(int x) { print 1; return x; }
			static method int both(int x) { return 10; }
			method int dyn(int x) { return x; }
			static method int hid() { return 20; }
			method int shut() { return 30; }
			static method bool yes() { return true; }
			static method A obj() { return null; }
			static method int[] many() { return null; }
			static method int ofBool(int x, bool y) { return x; }
			static method int ofObj(A a) { return 1; }
			static method int ofMany(int x, int y, int[] z) { return 1; }
			static method int none() { return 7; }
			static method int minus(int x, int y) { return x - y; }
			static method int endless(int x) { while true { } }
		}`,
		`class B extends A {
			field int fld;
			static method int both(int x) { return 11; }
			method int hid() { return 21; }
			static method int shut() { return 31; }
		}`,
		"class C extends B { }")
}

// P10.1: which methods run, and of which class.
func TestWhichRun(t *testing.T) {
	p := several(t)
	for _, c := range []struct {
		class, method string
		args          []int64
		want          eval.Result
	}{
		{"A", "one", []int64{5}, num(5, 1)},
		{"B", "one", []int64{6}, num(6, 1)},
		{"C", "one", []int64{7}, num(7, 1)},
		{"A", "both", []int64{0}, num(10)},
		{"B", "both", []int64{0}, num(11)},
		{"C", "both", []int64{0}, num(11)},
		{"A", "hid", nil, num(20)},
		// B has a method of that name that isn't static: it is passed by.
		{"B", "hid", nil, num(20)},
		{"C", "hid", nil, num(20)},
		{"B", "shut", nil, num(31)},
		{"C", "shut", nil, num(31)},
		{"A", "none", nil, num(7)},
		{"A", "none", []int64{}, num(7)},
		{"A", "minus", []int64{9, 4}, num(5)},
	} {
		r, e := eval.Run(p.tab, p.list, c.class, c.method, c.args, much())
		if e != api.OK || !same(r, c.want) {
			t.Errorf("%s.%s%v: %v %v", c.class, c.method, c.args, r, e)
		}
	}
}

// P10.1: which don't run, and which error is first.
func TestWhichDoNot(t *testing.T) {
	p := several(t)
	for _, c := range []struct {
		class, method string
		args          []int64
		want          api.Errno
	}{
		{"D", "one", []int64{1}, api.ErrNone},
		{"", "one", []int64{1}, api.ErrNone},
		{"a", "one", []int64{1}, api.ErrNone},
		{"A", "", nil, api.ErrNone},
		{"A", "two", []int64{1}, api.ErrNone},
		{"A", "One", []int64{1}, api.ErrNone},
		{"A", "dyn", []int64{1}, api.ErrNone},
		{"B", "dyn", []int64{1}, api.ErrNone},
		{"A", "shut", nil, api.ErrNone},
		{"B", "fld", nil, api.ErrNone},
		{"A", "dyn", nil, api.ErrNone},
		{"A", "yes", nil, api.ErrType},
		{"A", "obj", nil, api.ErrType},
		{"A", "many", nil, api.ErrType},
		{"C", "yes", nil, api.ErrType},
		{"A", "ofBool", []int64{1, 1}, api.ErrType},
		{"A", "ofObj", []int64{1}, api.ErrType},
		{"A", "ofMany", []int64{1, 2, 3}, api.ErrType},
		// Of the wrong types and so many: the types are first.
		{"A", "yes", []int64{1}, api.ErrType},
		{"A", "ofObj", nil, api.ErrType},
		{"A", "ofMany", []int64{1}, api.ErrType},
		{"A", "one", nil, api.ErrCount},
		{"A", "one", []int64{1, 2}, api.ErrCount},
		{"C", "one", []int64{1, 2}, api.ErrCount},
		{"A", "none", []int64{1}, api.ErrCount},
		{"A", "minus", []int64{1}, api.ErrCount},
		{"A", "minus", []int64{1, 2, 3}, api.ErrCount},
	} {
		for _, b := range []eval.Bounds{much(), {}} {
			r, e := eval.Run(p.tab, p.list, c.class, c.method, c.args, b)
			if e != c.want || !reflect.DeepEqual(r, eval.Result{}) {
				t.Errorf("%s.%s%v: %v %v, not %v", c.class, c.method, c.args, r, e, c.want)
			}
		}
	}
	if _, e := eval.Run(hier.New(), nil, "A", "one", nil, much()); e != api.ErrNone {
		t.Error("of no class:", e)
	}
}

// P10.1: beside a trap the number is 0, and what was printed ahead of it stays.
func TestTrapAndNumber(t *testing.T) {
	p := made(t, `class A {
		static method int m(int x) { print 1; print x; return Main0.n(x) + 10 / x; }
	}`, "class Main0 { static method int n(int x) { print 3; return 5; } }")
	if r := p.run(t, "A", "m", much(), 0); !same(r, trapped(api.Zero, 1, 0, 3)) {
		t.Error(r)
	}
	if r := p.run(t, "A", "m", much(), 5); !same(r, num(7, 1, 5, 3)) {
		t.Error(r)
	}
}

// P10.1: Same.
func TestSame(t *testing.T) {
	list := []eval.Result{
		num(0), num(1), num(0, 0), num(0, 1), num(0, 1, 2), num(0, 1, 3), num(0, 2, 1), num(0, 1, 2, 3), num(-1, 1, 2),
		trapped(api.Null), trapped(api.Index), trapped(api.Zero), trapped(api.Null, 1, 2), {Trap: api.Null, Num: 1},
	}
	for i, a := range list {
		for j, b := range list {
			b.Out = slices.Clone(b.Out)
			if a.Same(b) != (i == j) {
				t.Error(a, b)
			}
		}
	}
	if !num(3).Same(eval.Result{Num: 3, Out: []int64{}}) || !(eval.Result{Out: []int64{}}).Same(num(0)) {
		t.Error("nil and empty are one")
	}
}

// Rules 4 and 5: what is handed in stays, and what was run has no bearing on what runs next.
func TestNothingStays(t *testing.T) {
	texts := []string{
		`class P { field int n; method int up() { this.n = this.n + 1; return this.n; } }`,
		`class Main { static method int go(int x, int y) { let P p = new P; let int[] a = new int[3]; a[1] = x; x = y; print a[1]; print p.up(); return p.up() + x; } }`,
	}
	p, other := made(t, texts...), made(t, texts...)
	args := []int64{4, 6}
	first := p.run(t, "Main", "go", much(), args...)
	if !same(first, num(8, 4, 1)) {
		t.Fatal(first)
	}
	second := p.run(t, "Main", "go", much(), args...)
	second.Out[0] = 99
	if !same(first, num(8, 4, 1)) || !slices.Equal(args, []int64{4, 6}) {
		t.Error(first, args)
	}
	if !reflect.DeepEqual(p.list, other.list) {
		t.Error("the classes were changed")
	}
	if r := p.run(t, "Main", "go", much(), args...); !same(r, first) {
		t.Error(r)
	}
	slices.Reverse(p.list)
	if r := p.run(t, "Main", "go", much(), args...); !same(r, first) {
		t.Error("in another order:", r)
	}
}
