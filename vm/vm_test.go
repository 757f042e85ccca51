package vm_test

import (
	"slices"
	"testing"

	"kiln/api"
	"kiln/ast"
	"kiln/class"
	"kiln/eval"
	"kiln/face"
	"kiln/gen"
	"kiln/hier"
	"kiln/link"
	"kiln/parse"
	"kiln/types"
	"kiln/verify"
	"kiln/vm"
)

// program is classes that layer 9 tells, the table of their faces, and the image that layer 13 makes of them.
type program struct {
	tab  *hier.Table
	list []ast.Class
	img  *link.Image
}

func made(t testing.TB, texts ...string) program {
	t.Helper()
	var p program
	var faces []face.Face
	for _, s := range texts {
		c, f := parse.Class(s)
		if f.E != api.OK {
			t.Fatalf("%v in %s", f, s)
		}
		p.list, faces = append(p.list, c), append(faces, face.Of(c))
	}
	p.tab = hier.New(faces...)
	var files []class.File
	for i, c := range p.list {
		x, f := types.Check(p.tab, c)
		if f.E != api.OK {
			t.Fatalf("%v in %s", f, c.Text())
		}
		p.list[i] = x
		file, e := gen.Class(p.tab, x)
		if e != api.OK {
			t.Fatal(e, c.Name)
		}
		files = append(files, file)
	}
	p.img = sound(t, files...)
	return p
}

// sound is an image without faults.
func sound(t testing.TB, files ...class.File) *link.Image {
	t.Helper()
	m, e := link.Link(files...)
	if e != api.OK {
		t.Fatal("doesn't fit together:", e)
	}
	if f := verify.Check(m); f.E != api.OK {
		t.Fatalf("%+v", f)
	}
	return m
}

// much is more than any test needs, unless it is one of bounds.
func much() eval.Bounds { return eval.Bounds{Steps: 1000000, Parts: 100000, Deep: 1000} }

// ran is what came of a method that must not be refused.
func ran(t testing.TB, m *link.Image, name, method string, b eval.Bounds, args ...int64) eval.Result {
	t.Helper()
	r, e := vm.Run(m, name, method, args, b)
	if e != api.OK {
		t.Fatalf("%s.%s%v: %v", name, method, args, e)
	}
	return r
}

func num(n int64, out ...int64) eval.Result { return eval.Result{Num: n, Out: out} }

func trapped(x api.Trap, out ...int64) eval.Result { return eval.Result{Trap: x, Out: out} }

// The chapter's example.
func TestExample(t *testing.T) {
	p := made(t, "class A { static method int m(int x) { print x; return x * 2; } }")
	if r := ran(t, p.img, "A", "m", much(), 4); !r.Same(num(8, 4)) {
		t.Error(r)
	}
}

func several(t testing.TB) program {
	t.Helper()
	return made(t,
		`class A {
			static method int one(int x) { print 1; return x; }
			static method int both(int x) { return 10; }
			method int dyn(int x) { return x; }
			static method int hid() { return 20; }
			method int shut() { return 30; }
			static method bool yes() { return true; }
			static method A obj() { return null; }
			static method int[] list() { return null; }
			static method int ofBool(int x, bool y) { return x; }
			static method int ofObj(A a) { return 1; }
			static method int ofList(int x, int y, int[] z) { return 1; }
			static method int none() { return 7; }
			static method int minus(int x, int y) { return x - y; }
		}`,
		`class B extends A {
			field int fld;
			static method int both(int x) { return 11; }
			method int hid() { return 21; }
			static method int shut() { return 31; }
		}`,
		"class C extends B { }")
}

// P16.1: which methods run: the first one of a class, or above it, that is static.
func TestWhichRun(t *testing.T) {
	p := several(t)
	for _, c := range []struct {
		name, method string
		args         []int64
		want         eval.Result
	}{
		{"A", "one", []int64{5}, num(5, 1)},
		{"B", "one", []int64{6}, num(6, 1)},
		{"C", "one", []int64{7}, num(7, 1)},
		{"A", "both", []int64{0}, num(10)},
		{"B", "both", []int64{0}, num(11)},
		{"C", "both", []int64{0}, num(11)},
		{"A", "hid", nil, num(20)},
		{"B", "hid", nil, num(20)},
		{"C", "hid", []int64{}, num(20)},
		{"B", "shut", nil, num(31)},
		{"C", "shut", nil, num(31)},
		{"C", "none", nil, num(7)},
		{"A", "minus", []int64{5, 8}, num(-3)},
		{"C", "minus", []int64{8, 5}, num(3)},
	} {
		args := slices.Clone(c.args)
		for range 2 {
			if r := ran(t, p.img, c.name, c.method, much(), args...); !r.Same(c.want) {
				t.Errorf("%s.%s: %v, not %v", c.name, c.method, r, c.want)
			}
		}
		if !slices.Equal(args, c.args) {
			t.Error("turned what was handed in:", args)
		}
	}
}

// P16.1: ErrNone, ErrType, ErrCount, in this order, as layer 10 tells them; and no Result beside them.
func TestErrors(t *testing.T) {
	p := several(t)
	some := []int64{1, 2, 3, 4}
	for _, name := range []string{"", "A", "B", "C", "D", "a", "int"} {
		for _, method := range []string{"", "one", "both", "dyn", "hid", "shut", "yes", "obj", "list", "ofBool", "ofObj", "ofList", "none", "minus", "fld", "go", "A"} {
			for n := range len(some) + 1 {
				for _, b := range []eval.Bounds{{}, much()} {
					_, want := eval.Run(p.tab, p.list, name, method, some[:n], b)
					r, e := vm.Run(p.img, name, method, some[:n], b)
					if e != want || e != api.OK && !r.Same(eval.Result{}) {
						t.Errorf("%s.%s of %d: %v %v, not %v", name, method, n, r, e, want)
					}
				}
			}
		}
	}
	for _, c := range []struct {
		name, method string
		args         []int64
		want         api.Errno
	}{
		{"A", "dyn", []int64{1}, api.ErrNone},
		{"A", "shut", nil, api.ErrNone},
		{"D", "one", []int64{1}, api.ErrNone},
		{"A", "yes", nil, api.ErrType},
		{"A", "yes", some, api.ErrType},
		{"B", "obj", nil, api.ErrType},
		{"B", "list", nil, api.ErrType},
		{"A", "ofBool", some[:2], api.ErrType},
		{"A", "ofBool", nil, api.ErrType},
		{"C", "ofObj", some[:1], api.ErrType},
		{"A", "ofList", some[:3], api.ErrType},
		{"A", "one", nil, api.ErrCount},
		{"C", "one", some[:2], api.ErrCount},
		{"A", "none", some[:1], api.ErrCount},
		{"A", "minus", some[:3], api.ErrCount},
	} {
		if _, e := vm.Run(p.img, c.name, c.method, c.args, much()); e != c.want {
			t.Errorf("%s.%s of %d: %v, not %v", c.name, c.method, len(c.args), e, c.want)
		}
	}
}

// P16.1: an image without files has no methods; nor has one of which nothing is.
func TestNoFiles(t *testing.T) {
	for _, m := range []*link.Image{sound(t), {}, nil} {
		if r, e := vm.Run(m, "A", "m", nil, much()); e != api.ErrNone || !r.Same(eval.Result{}) {
			t.Error(r, e)
		}
	}
}

// As many arguments as there may be.
func TestManyArguments(t *testing.T) {
	params, sum := "int p0", "p0"
	args := []int64{1000}
	for i := range int64(199) {
		name := "p" + string(rune('0'+i/100)) + string(rune('0'+i/10%10)) + string(rune('0'+i%10))
		params += ", int " + name
		sum += " + " + name
		args = append(args, i)
	}
	p := made(t, "class A { static method int m("+params+") { return "+sum+"; } }")
	if r := ran(t, p.img, "A", "m", much(), args...); !r.Same(num(1000 + 199*99)) {
		t.Error(r)
	}
	if _, e := vm.Run(p.img, "A", "m", args[:199], much()); e != api.ErrCount {
		t.Error(e)
	}
	if _, e := vm.Run(p.img, "A", "m", append(args, 1), much()); e != api.ErrCount {
		t.Error(e)
	}
}

// Rule 5: what was run before leaves nothing behind, in the image or in an answer.
func TestRunAgain(t *testing.T) {
	p := made(t, `class A {
		field int n;
		field A next;
		static method int m(int x) { let A a = new A; a.n = a.n + x; let int[] l = new int[3]; l[1] = l[1] + a.n; print l[1]; print x; return a.n; }
	}`)
	first := ran(t, p.img, "A", "m", much(), 1)
	for x := range int64(20) {
		if r := ran(t, p.img, "A", "m", much(), x); !r.Same(num(x, x, x)) {
			t.Error(x, r)
		}
	}
	if !first.Same(num(1, 1, 1)) {
		t.Error(first)
	}
}
