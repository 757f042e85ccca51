package link_test

import (
	"slices"
	"testing"

	"kiln/api"
	"kiln/ast"
	"kiln/class"
	"kiln/face"
	"kiln/link"
	"kiln/op"
)

// P14.2: Find: of the class itself, of one above it, of another Sig, static or not, of none; in whatever order the files came.
func TestFind(t *testing.T) {
	orders(world(t), func(list []class.File) {
		m := fits(t, "world", api.OK, append(list, file(t, "class User { }"))...)
		for _, c := range calls() {
			for range 2 {
				if owner, there := m.Find(c.x); owner != c.owner || there != (c.owner != "") {
					t.Fatalf("%+v: %q, %v", c, owner, there)
				}
			}
		}
		for _, x := range []class.Method{{}, {Class: "A"}, method("", sig("m", false, ast.Int())), method("a", sig("s", true, ast.Int()))} {
			if owner, there := m.Find(x); owner != "" || there {
				t.Errorf("%+v: %q, %v", x, owner, there)
			}
		}
	})
}

// P14.2: Find goes on behind a method of that name that is another one, however often.
func TestFindGoesOn(t *testing.T) {
	m := fits(t, "statics", api.OK, files(t,
		"class A { static method int s() { } method int m() { } }",
		"class B extends A { static method bool s() { } static method int m() { } }",
		"class C extends B { static method int s(int x) { } method int m() { } }",
		"class D extends C { static method int s() { } static method bool m() { } }",
		"class E extends D { method int s() { } }")...)
	i := ast.Int()
	for _, c := range []call{
		{method("E", sig("s", false, i)), "E"},
		{method("E", sig("s", true, i)), "D"},
		{method("E", sig("s", true, i, i)), "C"},
		{method("E", sig("s", true, ast.Bool())), "B"},
		{method("C", sig("s", true, i)), "A"},
		{method("B", sig("s", true, i)), "A"},
		{method("E", sig("m", false, i)), "C"},
		{method("E", sig("m", true, i)), "B"},
		{method("E", sig("m", true, ast.Bool())), "D"},
		{method("C", sig("m", false, i)), "C"},
		{method("B", sig("m", false, i)), "A"},
		{method("B", sig("m", true, ast.Bool())), ""},
		{method("D", sig("s", false, i)), ""},
	} {
		if owner, there := m.Find(c.x); owner != c.owner || there != (c.owner != "") {
			t.Errorf("%+v: %q, %v", c, owner, there)
		}
	}
}

// P14.2: File: the file of a name, the whole of it.
func TestFile(t *testing.T) {
	list := world(t)
	list[1].Nums = []int64{300}
	list[1].Pool.Fields = []class.Field{field("D", "c", ast.Of("C"))}
	list[2].Classes, list[2].Types = []string{"A"}, []ast.Type{array("B")}
	list[3].Pool.Methods = []class.Method{method("D", sig("self", true, ast.Int()))}
	orders(list, func(list []class.File) {
		m := fits(t, "world", api.OK, list...)
		for range 2 {
			for _, f := range list {
				if got, there := m.File(f.Name); !there || !same(got, f) {
					t.Fatalf("%s: %v, %+v", f.Name, there, got)
				}
			}
		}
		for _, name := range []string{"", "E", "a", "AA", "A ", "int"} {
			if got, there := m.File(name); there || !same(got, class.File{}) {
				t.Errorf("%q: %v, %+v", name, there, got)
			}
		}
	})
}

// P14.2: Body: that of a method of the class's own, by its name.
func TestBody(t *testing.T) {
	list := world(t)
	for i := range list {
		for j := range list[i].Bodies {
			list[i].Nums = []int64{0, 1, 2, 3, 4}
			list[i].Bodies[j].Code = []op.Instr{{Code: op.Int, A: i}, {Code: op.Print}, {Code: op.Int, A: j}, {Code: op.Return}}
		}
	}
	orders(list, func(list []class.File) {
		m := fits(t, "world", api.OK, list...)
		for _, f := range list {
			for j, s := range f.Face.Methods {
				if got, there := m.Body(f.Name, s.Name); !there || !sameBody(got, f.Bodies[j]) {
					t.Fatalf("%s.%s: %v, %+v", f.Name, s.Name, there, got)
				}
			}
		}
		// Neither what is above, nor what is below, nor fields.
		for _, x := range [][2]string{
			{"", ""}, {"", "m"}, {"A", ""}, {"A", "none"}, {"A", "x"}, {"A", "mm"}, {"A", "own"}, {"B", "m"}, {"D", "m"}, {"D", "own"}, {"D", "twin"}, {"C", "self"}, {"E", "m"}, {"a", "m"},
		} {
			if got, there := m.Body(x[0], x[1]); there || !sameBody(got, class.Body{}) {
				t.Errorf("%q: %v, %+v", x, there, got)
			}
		}
	})
}

// P14.2: Names: in the order of the files.
func TestNames(t *testing.T) {
	orders(world(t), func(list []class.File) {
		m := fits(t, "world", api.OK, list...)
		for range 2 {
			if got := m.Names(); !slices.Equal(got, names(list)) {
				t.Error(got, names(list))
			}
		}
	})
}

// P14.2: a nil Image has no files, and no names.
func TestNil(t *testing.T) {
	var m *link.Image
	for _, name := range []string{"", "A"} {
		if f, there := m.File(name); there || !same(f, class.File{}) {
			t.Error(f, there)
		}
	}
	if got := m.Names(); len(got) != 0 {
		t.Error(got)
	}
}

// P14.2: Size: a class's own fields and those from above; of what isn't there nothing.
func TestSize(t *testing.T) {
	orders(world(t), func(list []class.File) {
		m := fits(t, "world", api.OK, list...)
		for name, want := range map[string]int{"A": 4, "B": 5, "C": 1, "D": 5, "": 0, "E": 0, "a": 0, "int": 0} {
			for range 2 {
				if got := m.Size(name); got != want {
					t.Errorf("%q: %d, not %d", name, got, want)
				}
			}
		}
	})
}

// P14.2: Slot: behind those from above; a field has the same place in all classes below its own.
func TestSlot(t *testing.T) {
	list := append(world(t), files(t, "class E extends D { field int a; field A z; }", "class F extends C { field int f; }", "class G { }", "class H extends G { field int h; }")...)
	slots := map[string][]string{
		"A": {"b", "list", "x", "y"},
		"B": {"b", "list", "x", "y", "c"},
		"C": {"x"},
		"D": {"b", "list", "x", "y", "c"},
		"E": {"b", "list", "x", "y", "c", "a", "z"},
		"F": {"x", "f"},
		"G": {},
		"H": {"h"},
		"":  {}, "a": {}, "I": {}, "int": {},
	}
	for range list {
		list = append(list[1:], list[0])
		m := fits(t, "slots", api.OK, list...)
		for name, fields := range slots {
			for _, f := range []string{"b", "list", "x", "y", "c", "a", "z", "f", "h", "", "m", "self", "xx", "none"} {
				if got, want := m.Slot(name, f), slices.Index(fields, f); got != want {
					t.Errorf("%q, %q: %d, not %d", name, f, got, want)
				}
			}
			if got := m.Size(name); got != len(fields) {
				t.Errorf("%q: %d, not %d", name, got, len(fields))
			}
		}
	}
}

// P14.2: as many fields, and methods, as there may be.
func TestFullClasses(t *testing.T) {
	full := func(name, super string) class.File {
		f := face.Face{Name: name, Super: super}
		for i := range api.MaxMembers {
			member := name + string(rune('A'+i/20)) + string(rune('a'+i%20))
			f.Fields = append(f.Fields, ast.Var{Name: member, Type: ast.Of(name)})
			f.Methods = append(f.Methods, sig(member, i%2 == 0, ast.Of(name)))
		}
		return fileOf(f)
	}
	list := []class.File{full("B", "A"), full("C", "B"), full("A", "")}
	m := fits(t, "full", api.OK, list...)
	for at, owner := range map[int]class.File{0: list[2], api.MaxMembers: list[0], 2 * api.MaxMembers: list[1]} {
		if got := m.Size(owner.Name); got != at+api.MaxMembers {
			t.Error(owner.Name, got)
		}
		for i, x := range owner.Face.Fields {
			if got := m.Slot("C", x.Name); got != at+i {
				t.Error(x.Name, got)
			}
			got, there := m.Find(method("C", owner.Face.Methods[i]))
			if got != owner.Name || !there {
				t.Error(x.Name, got, there)
			}
			if b, there := m.Body(owner.Name, x.Name); !there || !sameBody(b, owner.Bodies[i]) {
				t.Error(x.Name, b, there)
			}
		}
	}
}

// What was asked of an image turns nothing in it, and nothing in another one of the same files.
func TestAskedAgain(t *testing.T) {
	list := world(t)
	one, two := fits(t, "one", api.OK, list...), fits(t, "two", api.OK, list...)
	for range 3 {
		if one.Size("D") != 5 || one.Slot("D", "c") != 4 || one.Slot("D", "none") != -1 || one.Size("None") != 0 {
			t.Error(one.Size("D"), one.Slot("D", "c"))
		}
		if owner, there := one.Find(method("D", sig("none", true, ast.Int()))); there || owner != "" {
			t.Error(owner, there)
		}
		for _, f := range list {
			a, _ := one.File(f.Name)
			b, _ := two.File(f.Name)
			if !same(a, f) || !same(b, f) {
				t.Errorf("%+v %+v", a, b)
			}
		}
	}
}
