package gen_test

import (
	"reflect"
	"testing"

	"kiln/api"
	"kiln/ast"
	"kiln/chance"
	"kiln/class"
	"kiln/face"
	"kiln/gen"
	"kiln/hier"
	"kiln/types"
)

// made is a class's file from its beginning on, and the names that were looked at.
func made(t *testing.T, tab *hier.Table, c ast.Class) (class.File, []string) {
	t.Helper()
	tab.Seen()
	c, fault := types.Check(tab, c)
	if fault.E != api.OK {
		t.Fatal(fault)
	}
	f, e := gen.Class(tab, c)
	if e != api.OK {
		t.Fatal(e)
	}
	return f, tab.Seen()
}

// only is the faces of those names, and others by the names of all other classes.
func only(list []ast.Class, names []string, other func(f face.Face) []face.Face) *hier.Table {
	there := map[string]bool{}
	for _, name := range names {
		there[name] = true
	}
	var faces []face.Face
	for _, c := range list {
		f := face.Of(c)
		if there[f.Name] {
			faces = append(faces, f)
		} else {
			faces = append(faces, other(f)...)
		}
	}
	return hier.New(faces...)
}

// P13.1: the file is the same when it is made again, and where classes that aren't looked at are others, or none.
func TestSameForOthers(t *testing.T) {
	others := []func(f face.Face) []face.Face{
		func(f face.Face) []face.Face { return nil },
		func(f face.Face) []face.Face { return []face.Face{{Name: f.Name, Super: f.Name}} },
		func(f face.Face) []face.Face {
			f.Methods = append(f.Methods, face.Sig{Name: "zzz", Ret: ast.Int()}, face.Sig{Name: "", Static: true})
			return []face.Face{f, {Name: "More", Super: f.Name}}
		},
	}
	left := 0
	for seed := range uint64(60) {
		list := parsed(t, chance.Texts(seed)...)
		tab := checked(t, list...).tab
		for _, c := range list {
			want, names := made(t, tab, c)
			left += len(list) - len(names)
			if again, _ := made(t, tab, c); !reflect.DeepEqual(again, want) {
				t.Fatal(seed, c.Name, "made again")
			}
			for i, other := range others {
				if got, _ := made(t, only(list, names, other), c); !reflect.DeepEqual(got, want) {
					t.Fatal(seed, c.Name, i)
				}
			}
		}
	}
	if left < 100 {
		t.Error("hardly any class wasn't looked at:", left)
	}
}

// P13.1: what is told of a class that is called hangs on its owner: another face of that is another file.
func TestOwnersFaceCounts(t *testing.T) {
	const caller = "class T { method int m(A a) { a.m(null); return A.s(); } }"
	a := checked(t, parsed(t, "class A { method int m(A a) { return 1; } static method int s() { return 1; } }", caller)...).file(t)
	b := checked(t, parsed(t, "class A { method bool m(T t) { return true; } static method int s() { return 1; } }", caller)...).file(t)
	if !reflect.DeepEqual(a.Bodies, b.Bodies) || reflect.DeepEqual(a.Pool, b.Pool) {
		t.Errorf("%+v\n%+v", a, b)
	}
	want := []class.Method{method("A", "m", false, ast.Bool(), ast.Of("T")), method("A", "s", true, ast.Int())}
	if !reflect.DeepEqual(b.Pool.Methods, want) {
		t.Errorf("%+v", b.Pool)
	}
}

// spoil writes into all memory that a value shows.
func spoil(v reflect.Value) {
	switch v.Kind() {
	case reflect.Struct:
		for i := range v.NumField() {
			spoil(v.Field(i))
		}
	case reflect.Slice:
		for i := range v.Len() {
			spoil(v.Index(i))
		}
	case reflect.String:
		v.SetString("spoilt")
	case reflect.Int, reflect.Int64:
		v.SetInt(-77)
	case reflect.Bool:
		v.SetBool(!v.Bool())
	}
}

// lists is where the lists of a value begin, those of some length.
func lists(v reflect.Value, all map[uintptr]int) {
	switch v.Kind() {
	case reflect.Struct:
		for i := range v.NumField() {
			lists(v.Field(i), all)
		}
	case reflect.Slice:
		if v.Len() > 0 {
			all[v.Pointer()]++
		}
		for i := range v.Len() {
			lists(v.Index(i), all)
		}
	}
}

// The answer is new memory, no two lists of it share any; what is handed in stays as it was, and isn't kept.
func TestAnswerIsNew(t *testing.T) {
	texts := append(others[:len(others):len(others)], `class T extends B { field T t; field int k; static method int z(int a, C c) { while c == null { return a; } return c.x + 12; }
		method int m(A a, int[] k) { let int[] l = new int[3]; l[0] = a.x; return T.z(this.m(a, l), null); } }`)
	// Nothing is made of same.
	p, same := checked(t, parsed(t, texts...)...), checked(t, parsed(t, texts...)...)
	f, want := p.file(t), p.file(t)
	if !reflect.DeepEqual(p.list, same.list) || !reflect.DeepEqual(f, want) {
		t.Error("what was handed in isn't the same any more")
	}
	starts := map[uintptr]int{}
	lists(reflect.ValueOf(f), starts)
	for _, n := range starts {
		if n > 1 {
			t.Error("two lists of the answer begin at one place")
		}
	}
	spoil(reflect.ValueOf(&f).Elem())
	if again := p.file(t); !reflect.DeepEqual(again, want) || !reflect.DeepEqual(p.list, same.list) {
		t.Error("the answer shares memory with the table, or the class")
	}
	f = p.file(t)
	spoil(reflect.ValueOf(&p.list).Elem())
	if !reflect.DeepEqual(f, want) {
		t.Error("the answer shares memory with the class")
	}
}
