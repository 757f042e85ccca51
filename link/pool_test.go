package link_test

import (
	"slices"
	"testing"

	"kiln/api"
	"kiln/ast"
	"kiln/class"
)

// world is classes to be named: D is below B, B below A; C stands alone.
func world(t testing.TB) []class.File {
	t.Helper()
	return files(t,
		`class A { field B b; field A[] list; field int x; field bool y;
			method int m(int a, B b) { } method A self() { } static method int s(int a) { } method int twin() { } }`,
		`class B extends A { field C c; method A self() { } static method bool twin() { } method bool own(A a, B b) { } static method bool s(int a) { } }`,
		`class C { field bool x; method int m() { } static method int s() { } }`,
		`class D extends B { static method int self() { } }`)
}

// part is one of a pool, and whether it is there.
type part[T any] struct {
	it    T
	there bool
}

// tryParts holds each part as the only one of a pool, and as the first, the middle and the last one of those that are there: in a file of its own, and in each of the world.
func tryParts[T any](t *testing.T, parts []part[T], put func(p *class.Pool, list []T)) {
	t.Helper()
	var right []T
	for _, x := range parts {
		if x.there {
			right = append(right, x.it)
		}
	}
	user := file(t, "class User { }")
	for _, x := range parts {
		want := api.ErrLink
		if x.there {
			want = api.OK
		}
		lists := [][]T{{x.it}}
		for _, at := range []int{0, len(right) / 2, len(right)} {
			lists = append(lists, slices.Insert(slices.Clone(right), at, x.it))
		}
		for _, list := range lists {
			for who := range 5 {
				all := append(world(t), user)
				put(&all[who].Pool, list)
				if !all[who].Right() {
					t.Fatal("isn't right:", x.it)
				}
				fits(t, "a part", want, all...)
				slices.Reverse(all)
				fits(t, "a part", want, all...)
			}
		}
	}
}

// P14.1: the Classes of a pool, by their names.
func TestPoolClasses(t *testing.T) {
	var parts []part[string]
	for _, name := range []string{"A", "B", "C", "D", "User"} {
		parts = append(parts, part[string]{name, true})
	}
	for _, name := range []string{"E", "Use", "Users", "AA", "Int", "USER", "A "} {
		parts = append(parts, part[string]{name, false})
	}
	tryParts(t, parts, func(p *class.Pool, list []string) { p.Classes = list })
}

// P14.1: the Types of a pool: int and bool are always there, others with their classes.
func TestPoolTypes(t *testing.T) {
	var parts []part[ast.Type]
	for _, name := range []string{"int", "bool", "A", "B", "C", "D", "User"} {
		parts = append(parts, part[ast.Type]{ast.Of(name), true}, part[ast.Type]{array(name), true})
	}
	for _, name := range []string{"E", "Use", "Int", "AA"} {
		parts = append(parts, part[ast.Type]{ast.Of(name), false}, part[ast.Type]{array(name), false})
	}
	tryParts(t, parts, func(p *class.Pool, list []ast.Type) { p.Types = list })
}

// P14.1: the Fields of a pool: their Class has them, or one above it, of that Type and no other.
func TestPoolFields(t *testing.T) {
	var parts []part[class.Field]
	put := func(there bool, owner, name string, kind ast.Type) {
		parts = append(parts, part[class.Field]{field(owner, name, kind), there})
	}
	for _, owner := range []string{"A", "B", "D"} {
		put(true, owner, "x", ast.Int())
		put(true, owner, "y", ast.Bool())
		put(true, owner, "b", ast.Of("B"))
		put(true, owner, "list", array("A"))
		// What fits isn't the same: neither of a class below, nor of one above.
		put(false, owner, "b", ast.Of("A"))
		put(false, owner, "b", ast.Of("D"))
		put(false, owner, "b", array("B"))
		put(false, owner, "list", ast.Of("A"))
		put(false, owner, "list", array("B"))
		put(false, owner, "x", ast.Bool())
		put(false, owner, "x", array("int"))
		put(false, owner, "y", ast.Int())
		put(false, owner, "z", ast.Int())
		put(false, owner, "m", ast.Int())
		put(false, owner, "xx", ast.Int())
	}
	put(true, "B", "c", ast.Of("C"))
	put(true, "D", "c", ast.Of("C"))
	put(false, "A", "c", ast.Of("C"))
	put(true, "C", "x", ast.Bool())
	put(false, "C", "x", ast.Int())
	put(false, "C", "y", ast.Bool())
	put(false, "User", "x", ast.Int())
	put(false, "E", "x", ast.Int())
	put(false, "None", "x", ast.Bool())
	tryParts(t, parts, func(p *class.Pool, list []class.Field) { p.Fields = list })
}

// call is a method, and whose Find says that it is: nobody's, if that is empty.
type call struct {
	x     class.Method
	owner string
}

// calls are all kinds of methods of the world.
func calls() []call {
	var all []call
	put := func(owner, class, name string, static bool, ret ast.Type, params ...ast.Type) {
		all = append(all, call{method(class, sig(name, static, ret, params...)), owner})
	}
	i, b, a := ast.Int(), ast.Bool(), ast.Of("A")
	// Of the class itself, and of those above it.
	for _, class := range []string{"A", "B", "D"} {
		put("A", class, "m", false, i, i, ast.Of("B"))
		put("A", class, "twin", false, i) // B's own is another one
		put("A", class, "s", true, i, i)  // so is B's s
		// Another Sig: static, what it returns, what it takes, how many, in which order, the name.
		put("", class, "m", true, i, i, ast.Of("B"))
		put("", class, "m", false, b, i, ast.Of("B"))
		put("", class, "m", false, array("int"), i, ast.Of("B"))
		put("", class, "m", false, i, i, a)
		put("", class, "m", false, i, i, ast.Of("D"))
		put("", class, "m", false, i, i, array("B"))
		put("", class, "m", false, i, ast.Of("B"), i)
		put("", class, "m", false, i, i)
		put("", class, "m", false, i)
		put("", class, "m", false, i, i, ast.Of("B"), i)
		put("", class, "mm", false, i, i, ast.Of("B"))
		put("", class, "x", false, i)
		put("", class, "s", false, i, i)
		put("", class, "s", true, i)
		put("", class, "s", true, array("int"), i)
		put("", class, "twin", true, i)
		put("", class, "self", true, a)
		put("", class, "self", false, ast.Of("B"))
		put("", class, "none", true, i)
	}
	// The first one of those that are the same.
	put("A", "A", "self", false, a)
	put("B", "B", "self", false, a)
	put("B", "D", "self", false, a)
	put("D", "D", "self", true, i)
	put("", "B", "self", true, i)
	put("", "A", "self", true, i)
	// Those of a class below are none of one above.
	for _, class := range []string{"B", "D"} {
		put("B", class, "own", false, b, a, ast.Of("B"))
		put("B", class, "twin", true, b)
		put("B", class, "s", true, b, i)
	}
	put("", "A", "own", false, b, a, ast.Of("B"))
	put("", "B", "own", false, b, ast.Of("B"), a)
	put("", "A", "twin", true, b)
	put("", "A", "s", true, b, i)
	// Nor are those of a class that stands alone.
	put("C", "C", "m", false, i)
	put("C", "C", "s", true, i)
	put("", "C", "m", false, i, i, ast.Of("B"))
	put("", "C", "s", true, i, i)
	put("", "C", "twin", false, i)
	put("", "User", "m", false, i)
	put("", "None", "m", false, i)
	put("", "E", "s", true, i)
	return all
}

// P14.1: the Methods of a pool are those that Find finds.
func TestPoolMethods(t *testing.T) {
	var parts []part[class.Method]
	for _, c := range calls() {
		parts = append(parts, part[class.Method]{c.x, c.owner != ""})
	}
	tryParts(t, parts, func(p *class.Pool, list []class.Method) { p.Methods = list })
}

// P14.1: each list of a pool counts beside the others, and the numbers for nothing.
func TestPoolLists(t *testing.T) {
	right := class.Pool{
		Nums:    []int64{-1, 0, 1 << 60},
		Classes: []string{"C"},
		Types:   []ast.Type{array("D")},
		Fields:  []class.Field{field("D", "x", ast.Int())},
		Methods: []class.Method{method("D", sig("twin", false, ast.Int()))},
	}
	for i, turn := range []func(p *class.Pool){
		func(p *class.Pool) {},
		func(p *class.Pool) { p.Classes = []string{"None"} },
		func(p *class.Pool) { p.Types = []ast.Type{array("None")} },
		func(p *class.Pool) { p.Fields = []class.Field{field("D", "x", ast.Bool())} },
		func(p *class.Pool) { p.Methods = []class.Method{method("D", sig("twin", false, ast.Bool()))} },
	} {
		f := file(t, "class User { }")
		f.Pool = right
		turn(&f.Pool)
		want := api.OK
		if i > 0 {
			want = api.ErrLink
		}
		for at := range 5 {
			fits(t, "lists", want, slices.Insert(world(t), at, f)...)
		}
	}
}

// P14.1: a pool of as many parts as there may be.
func TestPoolFull(t *testing.T) {
	f := file(t, "class User { }")
	f.Classes = slices.Repeat([]string{"B"}, api.MaxCode)
	f.Types = slices.Repeat([]ast.Type{array("C")}, api.MaxCode)
	f.Pool.Fields = slices.Repeat([]class.Field{field("D", "x", ast.Int())}, api.MaxCode)
	f.Pool.Methods = slices.Repeat([]class.Method{method("D", sig("twin", false, ast.Int()))}, api.MaxCode)
	last := api.MaxCode - 1
	for i, turn := range []func(p *class.Pool){
		func(p *class.Pool) {},
		func(p *class.Pool) { p.Classes[last] = "None" },
		func(p *class.Pool) { p.Types[last] = ast.Of("None") },
		func(p *class.Pool) { p.Fields[last].Name = "none" },
		func(p *class.Pool) { p.Methods[last].Name = "none" },
	} {
		list := copied(append(world(t), f))
		turn(&list[4].Pool)
		want := api.OK
		if i > 0 {
			want = api.ErrLink
		}
		fits(t, "full", want, list...)
	}
}
