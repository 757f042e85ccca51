package gen_test

import (
	"reflect"
	"slices"
	"strconv"
	"strings"
	"testing"

	"kiln/api"
	"kiln/ast"
	"kiln/class"
	"kiln/face"
	"kiln/gen"
	"kiln/hier"
	"kiln/op"
	"kiln/parse"
	"kiln/types"
)

// others are the classes beside the one that is compiled: B is below A, C stands alone.
var others = []string{
	`class A { field int x; field A[] list; field B b; field bool y; field int[] nums;
		method int get(int a) { return a; }
		method A self() { return this; }
		method A pick(A a, bool y, int[] n) { return a; }
		static method int sum(int a, B b) { return a; }
		static method B one() { return null; }
		static method int twin(int a) { return a; } }`,
	`class B extends A { field bool z; field C c; method A self() { return null; } method bool own() { return true; } static method bool twin(A a, A b) { return true; } }`,
	`class C { field int x; static method int twin() { return 1; } method int get() { return 1; } }`,
}

// program is classes that layer 9 tells, and the table of their faces.
type program struct {
	tab  *hier.Table
	list []ast.Class
}

func parsed(t testing.TB, texts ...string) []ast.Class {
	t.Helper()
	var list []ast.Class
	for _, s := range texts {
		c, f := parse.Class(s)
		if f.E != api.OK {
			t.Fatalf("%v in %s", f, s)
		}
		list = append(list, c)
	}
	return list
}

func checked(t testing.TB, list ...ast.Class) program {
	t.Helper()
	var faces []face.Face
	for _, c := range list {
		faces = append(faces, face.Of(c))
	}
	p := program{tab: hier.New(faces...)}
	for _, c := range list {
		x, f := types.Check(p.tab, c)
		if f.E != api.OK {
			t.Fatalf("%v in %s", f, c.Text())
		}
		p.list = append(p.list, x)
	}
	return p
}

// file is that of the last class.
func (p program) file(t testing.TB) class.File {
	t.Helper()
	f, e := gen.Class(p.tab, p.list[len(p.list)-1])
	if e != api.OK {
		t.Fatal(e)
	}
	if !f.Right() {
		t.Fatal("not right")
	}
	return f
}

// compiled is the file of a class that stands beside the others.
func compiled(t testing.TB, text string) class.File {
	t.Helper()
	return checked(t, parsed(t, append(slices.Clone(others), text)...)...).file(t)
}

// named is an instruction with what it names in place of a number of the pool.
func named(p class.Pool, i op.Instr) string {
	name := i.Code.Name() + " "
	switch i.Code.Pool() {
	case 'n':
		return name + strconv.FormatInt(p.Nums[i.A], 10)
	case 'c':
		return name + p.Classes[i.A]
	case 't':
		return name + p.Types[i.A].Text()
	case 'f':
		x := p.Fields[i.A]
		return name + x.Class + "." + x.Name + " " + x.Type.Text()
	case 'm':
		m := p.Methods[i.A]
		return name + m.Class + "." + m.Name
	}
	return i.Text()
}

func listing(p class.Pool, b class.Body) string {
	var all []string
	for _, i := range b.Code {
		all = append(all, named(p, i))
	}
	return strings.Join(all, "; ")
}

// body is that of a method.
func body(t testing.TB, f class.File, method string) class.Body {
	t.Helper()
	for i, m := range f.Face.Methods {
		if m.Name == method {
			return f.Bodies[i]
		}
	}
	t.Fatal("no method", method)
	return class.Body{}
}

func code(t testing.TB, f class.File, method string) string {
	t.Helper()
	return listing(f.Pool, body(t, f, method))
}

// The chapter's example: the pool, too.
func TestExample(t *testing.T) {
	f := compiled(t, "class T { static method int m(int x) { return x + 1; } }")
	want := class.File{
		Face: face.Face{Name: "T", Methods: []face.Sig{{Name: "m", Static: true, Params: []ast.Type{ast.Int()}, Ret: ast.Int()}}},
		Pool: class.Pool{Nums: []int64{1, 0}},
		Bodies: []class.Body{{Locals: 1, Stack: 2, Code: []op.Instr{
			{Code: op.Local}, {Code: op.Int}, {Code: op.Add}, {Code: op.Return}, {Code: op.Int, A: 1}, {Code: op.Return},
		}}},
	}
	if !reflect.DeepEqual(f, want) {
		t.Errorf("%+v", f)
	}
}

// P13.1: the face is the class's, in order of the names; so are the bodies, in whatever order the methods stand.
func TestFaceAndBodies(t *testing.T) {
	methods := []string{
		"method int n() { return 4; }", "static method int b(int[] q) { return 2; }", "method B z(A a, bool b) { print 5; }",
		"static method bool a() { print 1; }", "method int[] k() { print 3; }",
	}
	want := []string{"int 1", "int 2", "int 3", "int 4", "int 5"}
	for range 5 {
		methods = append(methods[1:], methods[0])
		text := "class T extends B { field int q; field C[] d; field A p; " + strings.Join(methods, " ") + " }"
		f := compiled(t, text)
		if !f.Face.Same(face.Of(parsed(t, text)[0])) || f.Name != "T" || f.Super != "B" || len(f.Bodies) != 5 {
			t.Fatalf("%+v", f)
		}
		for i, b := range f.Bodies {
			if got := named(f.Pool, b.Code[0]); got != want[i] {
				t.Error(i, got, want[i])
			}
		}
	}
	f := compiled(t, "class T extends A { field int q; }")
	if want := (class.File{Face: face.Face{Name: "T", Super: "A", Fields: []ast.Var{{Name: "q", Type: ast.Int()}}}}); !reflect.DeepEqual(f, want) {
		t.Errorf("%+v", f)
	}
}

// P13.1: each list of the pool has what is needed, in the order in which it is needed first, method by method of the face; each part once.
func TestPool(t *testing.T) {
	f := compiled(t, `class T extends B {
		method int z(C c) { print 7; print 9; c.x = this.get(c.get()); let bool t = new T is A; return 5; }
		method int m(A a, B b, C c) {
			print 9;
			print -8 + 9;
			a.b = b.b;
			b.z = a.y;
			c.x = this.x;
			let bool q = (a as B) == (null as T) && new B is B;
			return 8;
		}
		method bool n(B b) {
			let int[] i = new int[3]; let A[] l = new A[1]; l[i[0]] = l[0]; let bool[] y = new bool[i.length]; i[1] = i[2];
			print b.get(A.sum(T.sum(1, b), B.one())) + C.twin();
			let A p = b.self().self();
			return B.twin(this.self(), this);
		}
	}`)
	want := class.Pool{
		Nums:    []int64{9, 8, 0, 3, 1, 2, 7, 5},
		Classes: []string{"B", "T", "A"},
		Types:   []ast.Type{array("int"), array("A"), array("bool")},
		Fields: []class.Field{
			field("A", "b", ast.Of("B")), field("A", "y", ast.Bool()), field("B", "z", ast.Bool()), field("A", "x", ast.Int()), field("C", "x", ast.Int()),
		},
		Methods: []class.Method{
			method("A", "sum", true, ast.Int(), ast.Int(), ast.Of("B")),
			method("A", "one", true, ast.Of("B")),
			method("A", "get", false, ast.Int(), ast.Int()),
			method("C", "twin", true, ast.Int()),
			method("B", "self", false, ast.Of("A")),
			method("A", "self", false, ast.Of("A")),
			method("B", "twin", true, ast.Bool(), ast.Of("A"), ast.Of("A")),
			method("C", "get", false, ast.Int()),
		},
	}
	if !reflect.DeepEqual(f.Pool, want) {
		t.Errorf("%+v\n%+v", f.Pool, want)
	}
}

func array(name string) ast.Type { return ast.Type{Name: name, Array: true} }

func field(owner, name string, t ast.Type) class.Field {
	return class.Field{Class: owner, Var: ast.Var{Name: name, Type: t}}
}

func method(owner, name string, static bool, ret ast.Type, params ...ast.Type) class.Method {
	return class.Method{Class: owner, Sig: face.Sig{Name: name, Static: static, Params: params, Ret: ret}}
}

// P13.1: a field and a method are their owner's, with what the owner says that they are, whichever class they are asked of.
func TestOwners(t *testing.T) {
	for text, want := range map[string]any{
		"print this.x;":                    field("A", "x", ast.Int()),
		"print b.x;":                       field("A", "x", ast.Int()),
		"print a.x;":                       field("A", "x", ast.Int()),
		"print c.x;":                       field("C", "x", ast.Int()),
		"b.list = null;":                   field("A", "list", array("A")),
		"this.c = null;":                   field("B", "c", ast.Of("C")),
		"this.own1 = null;":                field("T", "own1", array("T")),
		"this.get(1);":                     method("A", "get", false, ast.Int(), ast.Int()),
		"c.get();":                         method("C", "get", false, ast.Int()),
		"a.self();":                        method("A", "self", false, ast.Of("A")),
		"b.self();":                        method("B", "self", false, ast.Of("A")),
		"this.self();":                     method("B", "self", false, ast.Of("A")),
		"this.own();":                      method("T", "own", false, ast.Bool()),
		"b.own();":                         method("B", "own", false, ast.Bool()),
		"b.pick(a, true, null);":           method("A", "pick", false, ast.Of("A"), ast.Of("A"), ast.Bool(), array("int")),
		"T.sum(1, null);":                  method("A", "sum", true, ast.Int(), ast.Int(), ast.Of("B")),
		"A.twin(1);":                       method("A", "twin", true, ast.Int(), ast.Int()),
		"B.twin(a, b);":                    method("B", "twin", true, ast.Bool(), ast.Of("A"), ast.Of("A")),
		"T.twin(a, b);":                    method("B", "twin", true, ast.Bool(), ast.Of("A"), ast.Of("A")),
		"C.twin();":                        method("C", "twin", true, ast.Int()),
		"T.get(b);":                        method("T", "get", true, ast.Bool(), ast.Of("A")),
		"this.m(a, b, c);":                 method("T", "m", false, ast.Int(), ast.Of("A"), ast.Of("B"), ast.Of("C")),
		"this.pick(b, true, null).self();": method("A", "pick", false, ast.Of("A"), ast.Of("A"), ast.Bool(), array("int")),
		"T.pick(null, null);":              method("T", "pick", true, array("B"), array("T"), ast.Of("T")),
		"let int q = (this as A as T).own1.length;": field("T", "own1", array("T")),
	} {
		f := compiled(t, `class T extends B { field T[] own1; static method B[] pick(T[] t, T u) { return null; } static method bool get(A a) { return true; }
			method bool own() { return true; } method int m(A a, B b, C c) { `+text+" } }")
		var got any
		if len(f.Pool.Fields) > 0 {
			got = f.Pool.Fields[0]
		} else {
			got = f.Pool.Methods[0]
		}
		if !reflect.DeepEqual(got, want) {
			t.Errorf("%s\n%+v\n%+v", text, got, want)
		}
	}
}
