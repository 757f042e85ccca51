package verify_test

import (
	"slices"
	"strconv"
	"strings"
	"testing"

	"kiln/api"
	"kiln/ast"
	"kiln/class"
	"kiln/face"
	"kiln/link"
	"kiln/op"
	"kiln/parse"
	"kiln/verify"
)

// sorts are the types that words may have, but for null: D is below B, B and C are below A.
const sorts = "int bool A B C D E int[] bool[] A[] B[]"

// world are classes without code; each of the static methods of P takes one of the sorts.
func world() []string {
	probes := "class P {"
	for i, s := range strings.Fields(sorts) {
		probes += " static method int p" + strconv.Itoa(i) + "(" + s + " x) { }"
	}
	return []string{
		"class A { field int n; field bool f; field B b; field int[] xs; method int m(int x, B b) { } method A self() { } static method bool s(bool y, int[] xs, A a) { } static method B made() { } }",
		"class B extends A { field A[] ls; method bool own() { } method int m(int x, B b) { } }",
		"class C extends A { }",
		"class D extends B { method int[] list(D d) { } }",
		"class E { field E e; }",
		probes + " }",
	}
}

func typeOf(text string) ast.Type {
	name, array := strings.CutSuffix(text, "[]")
	return ast.Type{Name: name, Array: array}
}

// fileOf is the file of a class's text, whose methods all go round.
func fileOf(t testing.TB, text string) class.File {
	t.Helper()
	c, fault := parse.Class(text)
	if fault.E != api.OK {
		t.Fatal(fault, text)
	}
	f := class.File{Face: face.Of(c)}
	for _, s := range f.Face.Methods {
		f.Bodies = append(f.Bodies, class.Body{Locals: len(s.Params) + 1, Code: []op.Instr{{Code: op.Jump}}})
	}
	return f
}

// full is a pool that names all that there is in files, and the sorts.
func full(list []class.File) class.Pool {
	p := class.Pool{Nums: []int64{7}}
	for _, s := range strings.Fields(sorts) {
		p.Types = append(p.Types, typeOf(s))
	}
	for _, f := range list {
		p.Classes = append(p.Classes, f.Name)
		for _, x := range f.Face.Fields {
			p.Fields = append(p.Fields, class.Field{Var: x, Class: f.Name})
		}
		for _, x := range f.Face.Methods {
			p.Methods = append(p.Methods, class.Method{Sig: x, Class: f.Name})
		}
	}
	return p
}

// trial is a method go of a class T, whose code is tried.
type trial struct {
	head   string // what stands ahead of T's members
	params string
	ret    string
	static bool
	stack  int
	more   int // locals beside this and the parameters
}

// plain is a static method with a parameter of each sort, and three locals more, that returns an int.
func plain() trial {
	var params []string
	for i, s := range strings.Fields(sorts) {
		params = append(params, s+" p"+strconv.Itoa(i))
	}
	return trial{"class T {", strings.Join(params, ", "), "int", true, 8, 3}
}

// local is the number of a sort's parameter in plain.
func local(sort string) string {
	return strconv.Itoa(slices.Index(strings.Fields(sorts), sort))
}

// The locals of plain behind its parameters.
const u, v = " 11", " 12"

// number is what stands for a name in a pool; a place of the code by its label.
func number(t testing.TB, p class.Pool, labels map[string]int, c op.Code, name string) int {
	t.Helper()
	at := -1
	owner, member, _ := strings.Cut(name, ".")
	switch c.Pool() {
	case 'c':
		at = slices.Index(p.Classes, name)
	case 't':
		at = slices.Index(p.Types, typeOf(name))
	case 'f':
		at = slices.IndexFunc(p.Fields, func(x class.Field) bool { return x.Class == owner && x.Name == member })
	case 'm':
		at = slices.IndexFunc(p.Methods, func(x class.Method) bool { return x.Class == owner && x.Name == member })
	default:
		n, e := strconv.Atoi(name)
		if at = n; e != nil {
			there := false
			if at, there = labels[name]; !there {
				at = -1
			}
		}
	}
	if at < 0 {
		t.Fatal("no", name)
	}
	return at
}

// codeOf is instructions as they are told: a; b. Ahead of one may stand labels, with a colon each.
func codeOf(t testing.TB, p class.Pool, text string) []op.Instr {
	t.Helper()
	lines := strings.Split(text, ";")
	labels := map[string]int{}
	for i, s := range lines {
		names := strings.Split(s, ":")
		lines[i] = names[len(names)-1]
		for _, label := range names[:len(names)-1] {
			labels[strings.TrimSpace(label)] = i
		}
	}
	var list []op.Instr
	for _, s := range lines {
		words := strings.Fields(s)
		c, e := op.Find(words[0])
		if e != api.OK || len(words) != 1 && c.Pool() == 0 {
			t.Fatalf("no instruction: %q in %q", s, text)
		}
		i := op.Instr{Code: c}
		if c.Pool() != 0 {
			i.A = number(t, p, labels, c, words[1])
		}
		list = append(list, i)
	}
	return list
}

// image is the world, with T, whose code is that text.
func (x trial) image(t testing.TB, text string) *link.Image {
	t.Helper()
	static := ""
	if x.static {
		static = "static "
	}
	var list []class.File
	for _, s := range append(world(), x.head+" "+static+"method "+x.ret+" go("+x.params+") { } }") {
		list = append(list, fileOf(t, s))
	}
	f := &list[len(list)-1]
	f.Pool = full(list)
	at := slices.IndexFunc(f.Face.Methods, func(s face.Sig) bool { return s.Name == "go" })
	s := f.Face.Methods[at]
	locals := len(s.Params) + x.more
	if !x.static {
		locals++
	}
	f.Bodies[at] = class.Body{Locals: locals, Stack: x.stack, Code: codeOf(t, f.Pool, text)}
	return linked(t, list...)
}

func linked(t testing.TB, list ...class.File) *link.Image {
	t.Helper()
	m, e := link.Link(list...)
	if e != api.OK {
		t.Fatal("doesn't fit together:", e)
	}
	return m
}

// holds holds what Check tells of T's code: at is where the fault is; -1: there is none.
func (x trial) holds(t testing.TB, text string, at int) {
	t.Helper()
	want := verify.Fault{}
	if at >= 0 {
		want = verify.Fault{E: api.ErrCode, Class: "T", Method: "go", At: at}
	}
	if f := verify.Check(x.image(t, text)); f != want {
		t.Errorf("%s: %+v, not %+v", text, f, want)
	}
}

func right(t testing.TB, text string) {
	t.Helper()
	plain().holds(t, text, -1)
}

func wrong(t testing.TB, text string, at int) {
	t.Helper()
	plain().holds(t, text, at)
}

// The chapter's example.
func TestExample(t *testing.T) {
	wrong(t, "int 0; add; return", 1)
	right(t, "int 0; int 0; add; return")
}

// P15.3: an image without files, or without methods, has no fault; nor has one of which nothing is.
func TestNothing(t *testing.T) {
	for _, m := range []*link.Image{nil, linked(t), linked(t, fileOf(t, "class A { field A a; }"))} {
		if f := verify.Check(m); f != (verify.Fault{}) {
			t.Error(f)
		}
	}
}

// P15.3: class by class, in the order of Names, and method by method, in that of the Face; the first fault is told, however often one asks, and the image stays what it was.
func TestWhichFirst(t *testing.T) {
	good, bad := []op.Instr{{Code: op.Null}, {Code: op.Return}}, []op.Instr{{Code: op.Null}, {Code: op.Pop}, {Code: op.Pop}}
	for set := range 64 {
		var list []class.File
		want := verify.Fault{}
		for i, name := range []string{"B", "C", "A"} {
			f := fileOf(t, "class "+name+" { static method A n() { } method A m() { } }")
			for j, m := range []string{"m", "n"} {
				f.Bodies[j] = class.Body{Locals: 1, Stack: 1, Code: good}
				if set>>(2*i+j)&1 == 1 {
					f.Bodies[j].Code = bad
					if want.E == api.OK {
						want = verify.Fault{E: api.ErrCode, Class: name, Method: m, At: 2}
					}
				}
			}
			list = append(list, f)
		}
		m := linked(t, list...)
		for range 2 {
			if f := verify.Check(m); f != want {
				t.Errorf("%b: %+v, not %+v", set, f, want)
			}
		}
		for _, f := range list {
			x, _ := m.File(f.Name)
			for j := range f.Bodies {
				if !slices.Equal(x.Bodies[j].Code, f.Bodies[j].Code) {
					t.Error(set, x)
				}
			}
		}
	}
}

// P15.3: At: the first fault, where no jump stands ahead of it.
func TestAt(t *testing.T) {
	wrong(t, "pop; pop; return", 0)
	wrong(t, "int 0; pop; pop; pop; return", 2)
	wrong(t, "int 0; print; bool 1; print; add; return", 3)
	// Nothing comes to what stands behind a fault.
	wrong(t, "int 0; print; print; L: int 0; bool 1; unless L; return", 2)
	// A way back may make a fault ahead of those that are met sooner: of these it is the first one.
	wrong(t, "int 0; L: pop; bool 1; unless L; pop; return", 1)
	wrong(t, "int 0; store"+u+"; L: local"+u+"; pop; null; store"+u+"; bool 1; unless L; pop; return", 2)
	wrong(t, "null; store"+u+"; L: local"+u+"; get E.e; pop; bool 1; unless M; pop; M: local "+local("A")+"; store"+u+"; jump L", 3)
}
