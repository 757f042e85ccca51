package types_test

import (
	"reflect"
	"slices"
	"strings"
	"testing"

	"kiln/api"
	"kiln/ast"
	"kiln/face"
	"kiln/hier"
	"kiln/lex"
	"kiln/parse"
	"kiln/types"
)

// others are the classes beside the one that is checked: B is below A, D below B; C stands alone.
var others = []string{
	`class A { field int x; field A[] list; field B b; field int[] nums;
		method int get(int a) { return a; }
		method A self() { return this; }
		method A pick(A a, bool y, int[] n) { return a; }
		static method int sum(int a, B b) { return a; }
		static method B[] many(A a, bool y) { return null; } }`,
	`class B extends A { field bool z; field C c; method bool own() { return true; } static method B one() { return null; } method int twin() { return 1; } }`,
	`class C { static method int twin() { return 1; } static method C none() { return null; } }`,
	`class D extends B { static method int get2(D d, B b, A a, C c) { return 1; } }`,
}

// marked is a text without its mark, and the place of what stands behind it.
func marked(s string) (string, api.Pos) {
	before, after, found := strings.Cut(s, "@")
	if !found {
		return s, api.Pos{}
	}
	lines := strings.Split(before, "\n")
	return before + after, api.Pos{Line: len(lines), Col: len(lines[len(lines)-1]) + 1}
}

func parsed(t *testing.T, s string) ast.Class {
	t.Helper()
	c, f := parse.Class(s)
	if f.E != api.OK {
		t.Fatal(s, f)
	}
	return c
}

// table is of the others and of these classes.
func table(t *testing.T, list ...ast.Class) *hier.Table {
	t.Helper()
	var faces []face.Face
	for _, s := range others {
		faces = append(faces, face.Of(parsed(t, s)))
	}
	for _, c := range list {
		faces = append(faces, face.Of(c))
	}
	return hier.New(faces...)
}

// wrong holds a class against an error, at the place that its text has marked.
func wrong(t *testing.T, text string, e api.Errno) {
	t.Helper()
	s, at := marked(text)
	c := parsed(t, s)
	got, f := types.Check(table(t, c), c)
	if f != (lex.Fault{E: e, At: at}) {
		t.Errorf("%s\n%v, not %v at %v", text, f, e, at)
	}
	if e != api.OK && !reflect.DeepEqual(got, ast.Class{}) {
		t.Errorf("%s\n%v beside a fault", text, got)
	}
	if e == api.OK && !got.Same(c) {
		t.Errorf("%s\n%s", text, got.Text())
	}
}

// inMethod is a class T with a body, in which there are locals of many types.
func inMethod(body string) string {
	return "class T extends B { field T next;\nmethod int m(int n, bool y, A a, B b, C c, int[] ns, bool[] ys, A[] as1, B[] bs) {\n" + body + "\n} }"
}

func inStatic(body string) string {
	return "class T extends B { field T next;\nstatic method int s(int n, bool y, A a, B b) {\n" + body + "\n} }"
}

// told is all expressions of a class, Kids ahead of what they are in: text, type and, behind a slash, whose member it is.
func told(c ast.Class) []string {
	var all []string
	var expr func(e ast.Expr)
	expr = func(e ast.Expr) {
		for _, x := range e.Kids {
			expr(x)
		}
		s := e.Text() + ": " + e.Of.Text()
		if e.Owner != "" {
			s += "/" + e.Owner
		}
		all = append(all, s)
	}
	var block func(list []ast.Stmt)
	block = func(list []ast.Stmt) {
		for _, s := range list {
			for _, e := range s.E {
				expr(e)
			}
			block(s.Then)
			block(s.Else)
		}
	}
	for _, m := range c.Methods {
		block(m.Body)
	}
	return all
}

// right checks a class, and tells its expressions.
func right(t *testing.T, text string) []string {
	t.Helper()
	c := parsed(t, text)
	got, f := types.Check(table(t, c), c)
	if f != (lex.Fault{}) || !got.Same(c) {
		t.Errorf("%s\n%v", text, f)
	}
	return told(got)
}

// P9.1: the face in the table must be the class's own.
func TestFaceIsOwn(t *testing.T) {
	const text = "\n class T extends A { field int f; method int m(int n) { return n; } static method int s() { return 1; } }"
	c := parsed(t, text)
	arg := lex.Fault{E: api.ErrArg, At: api.Pos{Line: 2, Col: 2}}
	if c.At != arg.At {
		t.Fatal(c.At)
	}
	for name, turn := range map[string]func(f *face.Face){
		"name":         func(f *face.Face) { f.Name = "U" },
		"super":        func(f *face.Face) { f.Super = "B" },
		"no super":     func(f *face.Face) { f.Super = "" },
		"field":        func(f *face.Face) { f.Fields[0].Name = "g" },
		"field's type": func(f *face.Face) { f.Fields[0].Type = ast.Bool() },
		"no field":     func(f *face.Face) { f.Fields = nil },
		"method":       func(f *face.Face) { f.Methods[0].Name = "n" },
		"static":       func(f *face.Face) { f.Methods[0].Static = true },
		"parameter":    func(f *face.Face) { f.Methods[0].Params[0] = ast.Bool() },
		"parameters":   func(f *face.Face) { f.Methods[0].Params = nil },
		"return":       func(f *face.Face) { f.Methods[0].Ret = ast.Bool() },
		"one more":     func(f *face.Face) { f.Methods = append(f.Methods, face.Sig{Name: "z", Ret: ast.Int()}) },
		"order":        func(f *face.Face) { f.Methods[0], f.Methods[1] = f.Methods[1], f.Methods[0] },
	} {
		f := face.Of(c)
		turn(&f)
		faces := []face.Face{f}
		for _, s := range others {
			faces = append(faces, face.Of(parsed(t, s)))
		}
		if got, f := types.Check(hier.New(faces...), c); f != arg || !reflect.DeepEqual(got, ast.Class{}) {
			t.Error(name, f)
		}
	}
	for name, tab := range map[string]*hier.Table{"none": hier.New(), "others": table(t), "nil": nil, "zero": {}} {
		if got, f := types.Check(tab, c); f != arg || !reflect.DeepEqual(got, ast.Class{}) {
			t.Error(name, f)
		}
	}
	// A body, and the names of parameters, are nothing of a face.
	d := parsed(t, "class T extends A { field int f; static method int s() { return 2; } method int m(int k) { return k; } }")
	if got, f := types.Check(table(t, c), d); f != (lex.Fault{}) || !got.Same(d) {
		t.Error(f)
	}
}

// P9.1: what the table's Check tells is told at the class's place, ahead of all that is in methods.
func TestTableCheck(t *testing.T) {
	for _, x := range []struct {
		text string
		e    api.Errno
	}{
		{"@class T extends None { method int m() { return true; } }", api.ErrName},
		{"\n\n @class T extends T { method int m() { return true; } }", api.ErrCycle},
		{"@class T { field int x; field bool x; }", api.ErrTwice},
		{"@class T { method int m() { return true; } method int m() { return true; } }", api.ErrTwice},
		{"@class T { method int m() { return 1; } static method int m() { return 1; } }", api.ErrTwice},
		{"@class T { field None x; method int m() { return true; } }", api.ErrName},
		{"@class T { field None[] x; }", api.ErrName},
		{"@class T extends B { field int x; }", api.ErrTwice},
		{"@class T extends B { field bool z; }", api.ErrTwice},
		{"@class T { method None m() { return true; } }", api.ErrName},
		{"@class T { method int m(int a, None[] b) { return true; } }", api.ErrName},
		{"@class T extends B { method int get(bool a) { return true; } }", api.ErrOver},
		{"@class T extends B { method bool get(int a) { return 1; } }", api.ErrOver},
		{"class T { }", api.OK},
		{"class T extends B { field T t; field D d; method int get(int b) { return b; } static method bool self(int a) { return true; } }", api.OK},
	} {
		wrong(t, x.text, x.e)
	}
	// Above one another in a ring of two, and a class without a name.
	c, d := parsed(t, "class T extends U { }"), parsed(t, "class U extends T { }")
	if _, f := types.Check(table(t, c, d), c); f != (lex.Fault{E: api.ErrCycle, At: c.At}) {
		t.Error(f)
	}
	no := ast.Class{At: api.Pos{Line: 3, Col: 4}}
	if _, f := types.Check(hier.New(face.Face{}), no); f != (lex.Fault{E: api.ErrName, At: no.At}) {
		t.Error(f)
	}
}

// P9.1: methods go in the order in which they stand, not in that of their names.
func TestFirstMethod(t *testing.T) {
	wrong(t, "class T { method int z() { return @true; } method int a() { return q; } }", api.ErrType)
	wrong(t, "class T { method int z() { return 1; } method int a() { return @q; } method int b() { return true; } }", api.ErrName)
	wrong(t, "class T { static method int z() { return @this; } method int a(int p, int p) { return 1; } }", api.ErrName)
	wrong(t, "class T { static method int z() { return 1; } @method int a(int p, int p) { return true; } }", api.ErrTwice)
}

// P9.1: a method has its own locals, its own return, and is static or not by itself.
func TestMethodsApart(t *testing.T) {
	got := right(t, "class T { static method int a(int p) { let int q = p; return q; } method bool b(bool p) { let bool q = p; let T r = this; return q; } method T c() { return this; } }")
	want := []string{"p: int", "q: int", "p: bool", "this: T", "q: bool", "this: T"}
	if !slices.Equal(got, want) {
		t.Errorf("%q", got)
	}
	wrong(t, "class T { method int a(int p) { let int q = 1; return q; } method int b() { return @p; } }", api.ErrName)
	wrong(t, "class T { method int a(int p) { let int q = 1; return q; } method int b() { return @q; } }", api.ErrName)
}

// P9.1: the answer is the class, with places, in new memory; what was handed in stays as it was.
func TestAnswerIsNew(t *testing.T) {
	const text = `class T extends B { field T next; field int[] k;
		method int m(int n, B b) { let int i = n + b.get(n); if this.z { this.next = new T; } else { print B.sum(i, b); } while b is D { b.self(); return i; } return 1; } }`
	c, same := parsed(t, text), parsed(t, text)
	tab := table(t, c)
	got, f := types.Check(tab, c)
	if f != (lex.Fault{}) || !reflect.DeepEqual(c, same) {
		t.Fatal(f)
	}
	before := told(got)
	again, f := types.Check(tab, got)
	if f != (lex.Fault{}) || !reflect.DeepEqual(again, got) {
		t.Error("a class that has types already gets others")
	}
	spoil(reflect.ValueOf(&c).Elem())
	if !slices.Equal(told(got), before) || !got.Same(same) || !reflect.DeepEqual(bare(got), same) {
		t.Error("the answer shares memory with what was handed in")
	}
	spoil(reflect.ValueOf(&got).Elem())
	if !slices.Equal(told(again), before) {
		t.Error("two answers share memory")
	}
	if last, f := types.Check(tab, same); f != (lex.Fault{}) || !slices.Equal(told(last), before) {
		t.Error("the table was turned", f)
	}
}

// spoil writes into all memory that a value shows.
func spoil(v reflect.Value) {
	switch v.Kind() {
	case reflect.Struct:
		for i := range v.NumField() {
			spoil(v.Field(i))
		}
	case reflect.Slice:
		for i := range v.Len() {
			spoil(v.Index(i))
		}
	case reflect.String:
		v.SetString("spoilt")
	case reflect.Int, reflect.Int64:
		v.SetInt(-77)
	case reflect.Bool:
		v.SetBool(!v.Bool())
	}
}

// bare is a class without what the checker says, in its own memory.
func bare(c ast.Class) ast.Class {
	var exprs func(list []ast.Expr) []ast.Expr
	exprs = func(list []ast.Expr) []ast.Expr {
		list = slices.Clone(list)
		for i := range list {
			list[i].Of, list[i].Owner, list[i].Kids = ast.Type{}, "", exprs(list[i].Kids)
		}
		return list
	}
	var block func(list []ast.Stmt) []ast.Stmt
	block = func(list []ast.Stmt) []ast.Stmt {
		list = slices.Clone(list)
		for i := range list {
			list[i].E, list[i].Then, list[i].Else = exprs(list[i].E), block(list[i].Then), block(list[i].Else)
		}
		return list
	}
	c.Methods = slices.Clone(c.Methods)
	for i := range c.Methods {
		c.Methods[i].Body = block(c.Methods[i].Body)
	}
	return c
}

// P9.1, P8.1: the table was looked at for what the class names or goes through, and for nothing else.
func TestLookedAt(t *testing.T) {
	for text, want := range map[string]string{
		"class T { method int m() { return 1; } }":                                                "T",
		"class T extends A { }":                                                                   "A T",
		"class T { field C c; }":                                                                  "C T",
		"class T { method int m() { let D d = null; return 1; } }":                                "D T",
		"class T { method int m() { let D[] d = null; return 1; } }":                              "D T",
		"class T { method int m(D d) { let bool b = d == null; return 1; } }":                     "D T",
		"class T { method int m(D d) { return d.x; } }":                                           "A B D T",
		"class T { method int m() { return new int[C.none() as D == null as B]; } }":              "B C D T",
		"class T { method int m() { if this is C { } return 1; } }":                               "C T",
		"class T { method int m() { return D.sum(1, null); } }":                                   "A B D T",
		"class T { method T m() { return q; } static method C n() { let D d = null; return 1; }}": "C T",
	} {
		c := parsed(t, text)
		tab := table(t, c)
		tab.Seen()
		types.Check(tab, c)
		if got := strings.Join(tab.Seen(), " "); got != want {
			t.Errorf("%s\n%s, not %s", text, got, want)
		}
	}
}
