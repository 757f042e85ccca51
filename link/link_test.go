package link_test

import (
	"slices"
	"strconv"
	"strings"
	"testing"

	"kiln/api"
	"kiln/ast"
	"kiln/class"
	"kiln/face"
	"kiln/link"
	"kiln/op"
	"kiln/parse"
)

func array(name string) ast.Type { return ast.Type{Name: name, Array: true} }

func sig(name string, static bool, ret ast.Type, params ...ast.Type) face.Sig {
	return face.Sig{Name: name, Static: static, Ret: ret, Params: params}
}

func field(owner, name string, t ast.Type) class.Field {
	return class.Field{Class: owner, Var: ast.Var{Name: name, Type: t}}
}

func method(owner string, s face.Sig) class.Method { return class.Method{Class: owner, Sig: s} }

// fileOf is a right file of a face: its bodies return at once, and each has another Stack.
func fileOf(f face.Face) class.File {
	x := class.File{Face: f}
	for i, m := range f.Methods {
		x.Bodies = append(x.Bodies, class.Body{Locals: len(m.Params) + 1, Stack: i + 1, Code: []op.Instr{{Code: op.Return}}})
	}
	return x
}

// file is that of a class's text, of which nothing but its face counts.
func file(t testing.TB, text string) class.File {
	t.Helper()
	c, f := parse.Class(text)
	if f.E != api.OK {
		t.Fatalf("%v in %s", f, text)
	}
	return fileOf(face.Of(c))
}

func files(t testing.TB, texts ...string) []class.File {
	t.Helper()
	var list []class.File
	for _, s := range texts {
		list = append(list, file(t, s))
	}
	return list
}

// names are the names of files, in their order.
func names(list []class.File) []string {
	var all []string
	for _, f := range list {
		all = append(all, f.Name)
	}
	return all
}

func same(a, b class.File) bool {
	return a.Face.Same(b.Face) &&
		slices.Equal(a.Nums, b.Nums) && slices.Equal(a.Classes, b.Classes) && slices.Equal(a.Types, b.Types) &&
		slices.Equal(a.Pool.Fields, b.Pool.Fields) &&
		slices.EqualFunc(a.Pool.Methods, b.Pool.Methods, func(x, y class.Method) bool { return x.Class == y.Class && x.Sig.Same(y.Sig) }) &&
		slices.EqualFunc(a.Bodies, b.Bodies, sameBody)
}

func sameBody(x, y class.Body) bool {
	return x.Locals == y.Locals && x.Stack == y.Stack && slices.Equal(x.Code, y.Code)
}

// copied is files that share no list of parts with others, so that one may be turned without the other.
func copied(list []class.File) []class.File {
	list = slices.Clone(list)
	for i, f := range list {
		list[i].Face.Fields = slices.Clone(f.Face.Fields)
		list[i].Face.Methods = slices.Clone(f.Face.Methods)
		list[i].Pool = class.Pool{Nums: slices.Clone(f.Nums), Classes: slices.Clone(f.Classes), Types: slices.Clone(f.Types),
			Fields: slices.Clone(f.Pool.Fields), Methods: slices.Clone(f.Pool.Methods)}
		list[i].Bodies = slices.Clone(f.Bodies)
	}
	return list
}

// fits links files of which just this comes; beside an error there is no image; the files stay as they were.
func fits(t testing.TB, what string, want api.Errno, list ...class.File) *link.Image {
	t.Helper()
	was := copied(list)
	m, e := link.Link(list...)
	if e != want {
		t.Fatalf("%s: %d, not %d, of %v", what, e, want, names(list))
	}
	if (m != nil) != (e == api.OK) {
		t.Fatalf("%s: %d beside the image %v", what, e, m)
	}
	if !slices.EqualFunc(list, was, same) {
		t.Fatalf("%s: what was handed in isn't the same any more", what)
	}
	return m
}

// orders calls with a list in each of its orders.
func orders(list []class.File, call func(list []class.File)) {
	var put func(ahead, rest []class.File)
	put = func(ahead, rest []class.File) {
		if len(rest) == 0 {
			call(ahead)
		}
		for i := range rest {
			put(append(slices.Clone(ahead), rest[i]), slices.Delete(slices.Clone(rest), i, i+1))
		}
	}
	put(nil, list)
}

// The chapter's example.
func TestExample(t *testing.T) {
	m := fits(t, "example", api.OK, files(t, "class A { field int x; field int y; }", "class B extends A { field int z; }")...)
	if m.Size("B") != 3 || m.Slot("B", "z") != 2 {
		t.Error(m.Size("B"), m.Slot("B", "z"))
	}
}

// P14.1: no files fit together, too.
func TestNone(t *testing.T) {
	m := fits(t, "none", api.OK)
	if len(m.Names()) != 0 || m.Size("A") != 0 || m.Slot("A", "x") != -1 {
		t.Error(m.Names(), m.Size("A"), m.Slot("A", "x"))
	}
	if f, there := m.Face("A"); there || !f.Same(face.Face{}) {
		t.Error(f, there)
	}
}

// alone are so many files without anything in them.
func alone(n int) []class.File {
	var list []class.File
	for i := range n {
		list = append(list, fileOf(face.Face{Name: "C" + strconv.Itoa(i)}))
	}
	return list
}

// P14.1: ErrMany of more than 200, ahead of all else that is wrong with them.
func TestMany(t *testing.T) {
	const most = api.MaxClasses
	m := fits(t, "200", api.OK, alone(most)...)
	if !slices.Equal(m.Names(), names(alone(most))) {
		t.Error(m.Names())
	}
	fits(t, "201", api.ErrMany, alone(most+1)...)
	fits(t, "500", api.ErrMany, alone(500)...)
	for what, x := range map[string]struct {
		f    class.File
		want api.Errno
	}{
		"not right":     {class.File{}, api.ErrForm},
		"twice":         {fileOf(face.Face{Name: "C7"}), api.ErrTwice},
		"below nothing": {fileOf(face.Face{Name: "X", Super: "None"}), api.ErrName},
		"below itself":  {fileOf(face.Face{Name: "X", Super: "X"}), api.ErrCycle},
		"loose":         {class.File{Face: face.Face{Name: "X"}, Pool: class.Pool{Classes: []string{"None"}}}, api.ErrLink},
	} {
		for _, at := range []int{0, 100, most - 1} {
			fits(t, what, x.want, slices.Insert(alone(most-1), at, x.f)...)
			fits(t, what, api.ErrMany, slices.Insert(alone(most), at, x.f)...)
		}
		fits(t, what, api.ErrMany, append(alone(most), x.f)...)
	}
}

// P14.1: 200 files each of which is below the one behind it.
func TestDeep(t *testing.T) {
	list := alone(api.MaxClasses)
	for i := range list {
		list[i].Face.Fields = []ast.Var{{Name: "f" + strconv.Itoa(i), Type: ast.Of("C" + strconv.Itoa(199-i))}}
		if i+1 < len(list) {
			list[i].Super = list[i+1].Name
		}
	}
	list[0].Pool.Fields = []class.Field{field("C0", "f199", ast.Of("C0"))}
	for range 2 {
		m := fits(t, "deep", api.OK, list...)
		for i := range list {
			name := "C" + strconv.Itoa(i)
			if m.Size(name) != 200-i || m.Slot(name, "f"+strconv.Itoa(i)) != 199-i || m.Slot("C0", "f"+strconv.Itoa(i)) != 199-i {
				t.Fatal(name, m.Size(name))
			}
		}
		slices.Reverse(list)
	}
	list[199].Super = "C0"
	fits(t, "round", api.ErrCycle, list...)
}

// wrong are files named Z that aren't Right, each for one thing.
func wrong(t testing.TB) map[string]class.File {
	all := map[string]class.File{}
	put := func(what string, turn func(f *class.File)) {
		f := file(t, "class Z { field int a; field int b; method int m() { } static method int n(int x) { } }")
		if f.Nums, f.Classes = []int64{1}, []string{"Z"}; !f.Right() {
			t.Fatal("isn't right from the beginning on")
		}
		turn(&f)
		if all[what] = f; f.Right() {
			t.Fatal("is right:", what)
		}
	}
	put("a Super that is none", func(f *class.File) { f.Super = "z" })
	put("fields that fall", func(f *class.File) { slices.Reverse(f.Face.Fields) })
	put("a field twice", func(f *class.File) { f.Face.Fields[1].Name = "a" })
	put("methods that fall", func(f *class.File) { slices.Reverse(f.Face.Methods) })
	put("a field of no type", func(f *class.File) { f.Face.Fields[0].Type = ast.Nothing() })
	put("a body fewer", func(f *class.File) { f.Bodies = f.Bodies[:1] })
	put("a body more", func(f *class.File) { f.Bodies = append(f.Bodies, f.Bodies[0]) })
	put("no bodies", func(f *class.File) { f.Bodies = nil })
	put("no code", func(f *class.File) { f.Bodies[1].Code = nil })
	put("a number that isn't there", func(f *class.File) { f.Bodies[1].Code = []op.Instr{{Code: op.Int, A: 1}} })
	put("a class that isn't there", func(f *class.File) { f.Bodies[0].Code = []op.Instr{{Code: op.New, A: 1}} })
	put("a jump to nowhere", func(f *class.File) { f.Bodies[0].Code = []op.Instr{{Code: op.Jump, A: 1}} })
	put("a code that is none", func(f *class.File) { f.Bodies[0].Code[0].Code = 0 })
	put("no locals", func(f *class.File) { f.Bodies[0].Locals = 0 })
	put("a stack too high", func(f *class.File) { f.Bodies[0].Stack = api.MaxStack + 1 })
	put("a pool's class that is none", func(f *class.File) { f.Classes[0] = "z" })
	put("a pool's type that is none", func(f *class.File) { f.Types = []ast.Type{ast.Nothing()} })
	put("a pool's field without a name", func(f *class.File) { f.Pool.Fields = []class.Field{field("Z", "", ast.Int())} })
	put("a pool's method without a class", func(f *class.File) { f.Pool.Methods = []class.Method{method("", sig("m", false, ast.Int()))} })
	put("a pool's method with a long name", func(f *class.File) {
		f.Pool.Methods = []class.Method{method("Z", sig(strings.Repeat("m", api.MaxName+1), false, ast.Int()))}
	})
	return all
}

// P14.1: ErrForm of a file that isn't Right, wherever it stands.
func TestForm(t *testing.T) {
	fits(t, "nothing", api.ErrForm, class.File{})
	list := files(t, "class A { }", "class B extends A { }")
	for what, f := range wrong(t) {
		fits(t, what, api.ErrForm, f)
		for at := range len(list) + 1 {
			fits(t, what, api.ErrForm, slices.Insert(slices.Clone(list), at, f)...)
		}
	}
}

// P14.1: ErrTwice of two files of one name, wherever they stand, and whether they are the same or not.
func TestTwice(t *testing.T) {
	others := files(t, "class B extends A { }", "class AA { }", "class Ab { }", "class A_ { }")
	a := file(t, "class A { field int x; method int m() { } }")
	fits(t, "once", api.OK, append(others, a)...)
	fits(t, "two", api.ErrTwice, a, a)
	fits(t, "three", api.ErrTwice, a, a, a)
	for _, twin := range append(files(t, "class A { }", "class A { field bool y; }", "class A extends Ab { }"), a) {
		for i := range len(others) + 1 {
			list := slices.Insert(slices.Clone(others), i, a)
			for j := range len(list) + 1 {
				fits(t, "twins", api.ErrTwice, slices.Insert(slices.Clone(list), j, twin)...)
			}
		}
	}
}

// P14.1: the image's table is that of all the files' faces.
func TestTable(t *testing.T) {
	orders(files(t, "class A { field B b; method int m(A a) { } }", "class B extends A { static method C s() { } }", "class C { field int[] l; }"), func(list []class.File) {
		m := fits(t, "table", api.OK, list...)
		for _, f := range list {
			if got, there := m.Face(f.Name); !there || !got.Same(f.Face) {
				t.Error(got, there)
			}
			if e := m.Check(f.Name); e != api.OK {
				t.Error(f.Name, e)
			}
		}
		if f, there := m.Face("D"); there || !f.Same(face.Face{}) {
			t.Error(f, there)
		}
		above, whole := m.Above("B")
		if !slices.Equal(above, []string{"B", "A"}) || !whole || !m.Below("B", "A") || m.Below("A", "B") || m.Common("A", "B") != "A" || m.Common("A", "C") != "" {
			t.Error(above, whole)
		}
		owner, kind, there := m.Field("B", "b")
		if owner != "A" || kind != ast.Of("B") || !there {
			t.Error(owner, kind, there)
		}
		owner, s, there := m.Method("B", "m", false)
		if owner != "A" || !s.Same(sig("m", false, ast.Int(), ast.Of("A"))) || !there {
			t.Error(owner, s, there)
		}
		if !m.Known(ast.Of("C"), array("A")) || m.Known(ast.Of("D")) || !m.Fits(ast.Of("B"), ast.Of("A")) || m.Fits(ast.Of("A"), ast.Of("B")) {
			t.Error("types")
		}
		if got := m.Table.Seen(); !slices.Contains(got, "D") {
			t.Error(got)
		}
	})
}
