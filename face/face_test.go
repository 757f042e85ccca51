package face_test

import (
	"math/rand"
	"reflect"
	"slices"
	"testing"

	"kiln/api"
	"kiln/ast"
	"kiln/face"
	"kiln/parse"
)

func array(name string) ast.Type { return ast.Type{Name: name, Array: true} }

func field(name string, t ast.Type) ast.Var { return ast.Var{Name: name, Type: t} }

// sig is a method that isn't static, of what it returns, and what it takes.
func sig(name string, ret ast.Type, params ...ast.Type) face.Sig {
	return face.Sig{Name: name, Ret: ret, Params: params}
}

// some is a face that is Right, made anew at each call, so that one may be turned without the other.
func some() face.Face {
	s := sig("n", array("C"), ast.Int(), array("bool"), ast.Of("C"))
	s.Static = true
	return face.Face{Name: "C", Super: "D", Fields: []ast.Var{field("f", ast.Of("E")), field("g", array("int"))},
		Methods: []face.Sig{sig("m", ast.Bool()), s}}
}

func parsed(t *testing.T, s string) ast.Class {
	t.Helper()
	c, f := parse.Class(s)
	if f.E != api.OK {
		t.Fatal(s, f)
	}
	return c
}

// P7.1: a method's name, whether it is static, its parameters' types in order, what it returns.
func TestOf1(t *testing.T) {
	c := parsed(t, "class A { method int m() { } static method B[] n(int x, bool[] y, A z, int w) { return null; } }")
	if got := face.Of1(c.Methods[0]); !reflect.DeepEqual(got, face.Sig{Name: "m", Ret: ast.Int()}) {
		t.Error(got)
	}
	want := face.Sig{Name: "n", Static: true, Ret: array("B"), Params: []ast.Type{ast.Int(), array("bool"), ast.Of("A"), ast.Int()}}
	if got := face.Of1(c.Methods[1]); !reflect.DeepEqual(got, want) {
		t.Error(got)
	}
	if got := face.Of1(ast.Method{}); !got.Same(face.Sig{}) {
		t.Error(got)
	}
}

// P7.1: members are in the order of their names, byte by byte, whatever order they stood in.
func TestOf(t *testing.T) {
	c := parsed(t, `class A extends B { static method bool z() { } field int b; method A a(int x) { } field A aa;
		field bool a; field int aB; method int m9(bool x, B y) { } field int a_; field int ab; method int m10() { } }`)
	want := face.Face{Name: "A", Super: "B",
		Fields: []ast.Var{field("a", ast.Bool()), field("aB", ast.Int()), field("a_", ast.Int()), field("aa", ast.Of("A")), field("ab", ast.Int()), field("b", ast.Int())},
		Methods: []face.Sig{sig("a", ast.Of("A"), ast.Int()), sig("m10", ast.Int()), sig("m9", ast.Int(), ast.Bool(), ast.Of("B")),
			{Name: "z", Static: true, Ret: ast.Bool()}}}
	if got := face.Of(c); !reflect.DeepEqual(got, want) {
		t.Errorf("%+v", got)
	}
	if got := face.Of(ast.Class{}); !got.Same(face.Face{}) {
		t.Error(got)
	}
	odd := ast.Class{Name: "\xff", Fields: []ast.Var{{Name: "\xff"}, {Name: "é"}, {Name: "z"}, {Name: ""}, {Name: "Z"}}}
	if got := face.Of(odd).Fields; !slices.Equal(got, []ast.Var{{Name: ""}, {Name: "Z"}, {Name: "z"}, {Name: "é"}, {Name: "\xff"}}) {
		t.Error(got)
	}
}

// P7.1: those of one name stay as they stand, however many there are.
func TestOfIsStable(t *testing.T) {
	r := rand.New(rand.NewSource(7))
	var c ast.Class
	for i := range 1000 {
		name := string(rune('a' + r.Intn(5)))
		c.Fields = append(c.Fields, field(name, ast.Type{Name: string(rune(i))}))
		c.Methods = append(c.Methods, ast.Method{Name: name, Ret: ast.Type{Name: string(rune(i))}})
	}
	f := face.Of(c)
	for i := 1; i < len(c.Fields); i++ {
		a, b := f.Fields[i-1], f.Fields[i]
		if a.Name > b.Name || a.Name == b.Name && a.Type.Name >= b.Type.Name {
			t.Fatal(a, b)
		}
		x, y := f.Methods[i-1], f.Methods[i]
		if x.Name > y.Name || x.Name == y.Name && x.Ret.Name >= y.Ret.Name {
			t.Fatal(x, y)
		}
	}
}

// P7.1: the class is as it was, and what is turned in one isn't in the other.
func TestOfSharesNothing(t *testing.T) {
	text := "class A { field int b; field int a; method int n(int x, int y) { } method int m(bool x) { } }"
	c, same := parsed(t, text), parsed(t, text)
	f := face.Of(c)
	s := face.Of1(c.Methods[0])
	if !reflect.DeepEqual(c, same) {
		t.Error("the class is turned")
	}
	want := face.Of(same)
	c.Fields[0], c.Fields[1] = field("x", ast.Bool()), field("y", ast.Bool())
	c.Methods[0].Params[0], c.Methods[1].Params[0] = field("z", ast.Of("Z")), field("z", ast.Of("Z"))
	c.Methods[0].Name = "z"
	if !f.Same(want) || !s.Same(sig("n", ast.Int(), ast.Int(), ast.Int())) {
		t.Error(f, s)
	}
	c = parsed(t, text)
	f = face.Of(c)
	f.Fields[0], f.Fields[1] = field("x", ast.Bool()), field("y", ast.Bool())
	f.Methods[0].Params[0], f.Methods[1].Params[0] = ast.Of("Z"), ast.Of("Z")
	if !reflect.DeepEqual(c, same) {
		t.Error("the class is turned")
	}
}

// P7.1: the first one of a name, or none and false.
func TestField(t *testing.T) {
	f := face.Face{Fields: []ast.Var{field("z", ast.Int()), field("a", ast.Bool()), field("z", ast.Of("C")), field("", array("D"))},
		Methods: []face.Sig{sig("m", ast.Int())}}
	for name, want := range map[string]ast.Type{"z": ast.Int(), "a": ast.Bool(), "": array("D")} {
		if got, ok := f.Field(name); !ok || got != want {
			t.Errorf("%q: %v, %v", name, got, ok)
		}
	}
	for _, name := range []string{"b", "m", "A", "aa", "zz"} {
		if got, ok := f.Field(name); ok || got != (ast.Type{}) {
			t.Errorf("%q: %v, %v", name, got, ok)
		}
	}
	if got, ok := (face.Face{}).Field(""); ok || got != (ast.Type{}) {
		t.Error(got, ok)
	}
}

func TestMethod(t *testing.T) {
	first := sig("z", ast.Int(), ast.Int(), ast.Of("C"))
	f := face.Face{Methods: []face.Sig{first, sig("a", ast.Bool()), {Name: "z", Static: true}, {Name: ""}}, Fields: []ast.Var{field("f", ast.Int())}}
	for name, want := range map[string]face.Sig{"z": first, "a": sig("a", ast.Bool()), "": {}} {
		if got, ok := f.Method(name); !ok || !got.Same(want) {
			t.Errorf("%q: %v, %v", name, got, ok)
		}
	}
	for _, name := range []string{"b", "f", "Z", "zz"} {
		if got, ok := f.Method(name); ok || !got.Same(face.Sig{}) {
			t.Errorf("%q: %v, %v", name, got, ok)
		}
	}
	got, _ := f.Method("z")
	got.Params[0] = ast.Bool()
	if again, _ := f.Method("z"); again.Params[0] != ast.Int() || f.Methods[0].Params[0] != ast.Int() {
		t.Error("what is told shares memory with the face")
	}
}

// turned is some, turned in each of its parts.
func turned() []face.Face {
	var all []face.Face
	turn := func(how func(f *face.Face)) {
		f := some()
		how(&f)
		all = append(all, f)
	}
	turn(func(f *face.Face) { f.Name = "B" })
	turn(func(f *face.Face) { f.Super = "" })
	turn(func(f *face.Face) { f.Fields[0].Name = "e" })
	turn(func(f *face.Face) { f.Fields[0].Type.Name = "D" })
	turn(func(f *face.Face) { f.Fields[1].Type.Array = false })
	turn(func(f *face.Face) { f.Fields = f.Fields[:1] })
	turn(func(f *face.Face) { f.Fields = nil })
	turn(func(f *face.Face) { f.Fields = append(f.Fields, field("h", ast.Int())) })
	turn(func(f *face.Face) { slices.Reverse(f.Fields) })
	turn(func(f *face.Face) { f.Methods[0].Name = "l" })
	turn(func(f *face.Face) { f.Methods[0].Static = true })
	turn(func(f *face.Face) { f.Methods[1].Static = false })
	turn(func(f *face.Face) { f.Methods[0].Ret = ast.Int() })
	turn(func(f *face.Face) { f.Methods[1].Ret.Array = false })
	turn(func(f *face.Face) { f.Methods[0].Params = []ast.Type{ast.Int()} })
	turn(func(f *face.Face) { f.Methods[1].Params = nil })
	turn(func(f *face.Face) { f.Methods[1].Params = f.Methods[1].Params[:2] })
	turn(func(f *face.Face) { f.Methods[1].Params[0] = ast.Bool() })
	turn(func(f *face.Face) { f.Methods[1].Params[2].Array = true })
	turn(func(f *face.Face) { slices.Reverse(f.Methods[1].Params) })
	turn(func(f *face.Face) { f.Methods = f.Methods[1:] })
	turn(func(f *face.Face) { f.Methods = nil })
	turn(func(f *face.Face) { f.Methods = append(f.Methods, sig("o", ast.Int())) })
	turn(func(f *face.Face) { slices.Reverse(f.Methods) })
	return all
}

// P7.1: whatever turns, and whichever order, two faces are no longer the same; nor are their methods.
func TestSame(t *testing.T) {
	if !some().Same(some()) {
		t.Error("not the same as itself")
	}
	all := append(turned(), some())
	for i, a := range all {
		for j, b := range all {
			if a.Same(b) != (i == j) {
				t.Errorf("%+v, %+v", a, b)
			}
		}
	}
	s := some().Methods[1]
	for _, how := range []func(s *face.Sig){
		func(s *face.Sig) { s.Name = "m" },
		func(s *face.Sig) { s.Static = false },
		func(s *face.Sig) { s.Ret = ast.Of("C") },
		func(s *face.Sig) { s.Params = nil },
		func(s *face.Sig) { s.Params = s.Params[:2] },
		func(s *face.Sig) { s.Params = append(slices.Clone(s.Params), ast.Int()) },
		func(s *face.Sig) { s.Params = []ast.Type{s.Params[1], s.Params[0], s.Params[2]} },
	} {
		o := some().Methods[1]
		if !s.Same(o) || !o.Same(s) {
			t.Error("not the same as itself")
		}
		how(&o)
		if s.Same(o) || o.Same(s) {
			t.Errorf("%+v", o)
		}
	}
	if !(face.Face{}).Same(face.Face{Fields: []ast.Var{}, Methods: []face.Sig{}}) || !(face.Sig{}).Same(face.Sig{Params: []ast.Type{}}) {
		t.Error("no list and an empty one are one")
	}
}

// P7.1, P7.3: classes with the same members in unlike order have the same face, and the same digest.
func TestSameInUnlikeOrder(t *testing.T) {
	r := rand.New(rand.NewSource(8))
	for range 200 {
		c := ast.Class{Name: "A", Super: "B"}
		for i := range r.Intn(30) {
			name := string(rune('a'+i)) + "x"
			if r.Intn(2) == 0 {
				c.Fields = append(c.Fields, field(name, ast.Int()))
			} else {
				c.Methods = append(c.Methods, ast.Method{Name: name, Ret: ast.Bool(), Static: r.Intn(2) == 0, Params: []ast.Var{field("p", ast.Of(name))}})
			}
		}
		f := face.Of(c)
		o := ast.Class{At: api.Pos{Line: 3, Col: 4}, Name: "A", Super: "B"}
		for _, i := range r.Perm(len(c.Fields)) {
			o.Fields = append(o.Fields, c.Fields[i])
		}
		for _, i := range r.Perm(len(c.Methods)) {
			m := c.Methods[i]
			m.Body = []ast.Stmt{{Does: ast.Print}}
			m.Params = []ast.Var{field("q", m.Params[0].Type)}
			o.Methods = append(o.Methods, m)
		}
		if g := face.Of(o); !f.Same(g) || f.Digest() != g.Digest() {
			t.Fatalf("%+v, %+v", f, g)
		}
	}
}
