package hier_test

import (
	"reflect"
	"slices"
	"strconv"
	"testing"

	"kiln/api"
	"kiln/ast"
	"kiln/face"
	"kiln/hier"
	"kiln/parse"
)

func array(name string) ast.Type { return ast.Type{Name: name, Array: true} }

func field(name string, t ast.Type) ast.Var { return ast.Var{Name: name, Type: t} }

// sig is a method that isn't static, of what it returns, and what it takes.
func sig(name string, ret ast.Type, params ...ast.Type) face.Sig {
	return face.Sig{Name: name, Ret: ret, Params: params}
}

func static(s face.Sig) face.Sig {
	s.Static = true
	return s
}

// below is a face without members.
func below(name, super string) face.Face { return face.Face{Name: name, Super: super} }

// table is that of classes' texts.
func table(t *testing.T, texts ...string) *hier.Table {
	t.Helper()
	var list []face.Face
	for _, s := range texts {
		c, f := parse.Class(s)
		if f.E != api.OK {
			t.Fatal(s, f)
		}
		list = append(list, face.Of(c))
	}
	return hier.New(list...)
}

// shapes is classes above one another in all ways: D below C below A, B below A; Z alone; I below one that isn't there, J below I; E and F above each other, G below E; S above itself.
func shapes() *hier.Table {
	return hier.New(below("A", ""), below("B", "A"), below("C", "A"), below("D", "C"), below("Z", ""),
		below("I", "None"), below("J", "I"), below("E", "F"), below("F", "E"), below("G", "E"), below("S", "S"))
}

// P8.1: the faces by their names; of one name the last one; none and false.
func TestFace(t *testing.T) {
	one := face.Face{Name: "A", Fields: []ast.Var{field("x", ast.Int())}, Methods: []face.Sig{sig("m", ast.Int(), ast.Bool())}}
	two := below("A", "B")
	tab := hier.New(two, below("B", ""), one)
	if f, ok := tab.Face("A"); !ok || !f.Same(one) {
		t.Error(f, ok)
	}
	if f, ok := hier.New(one, two, below("B", "")).Face("A"); !ok || !f.Same(two) {
		t.Error(f, ok)
	}
	if f, ok := tab.Face("B"); !ok || !f.Same(below("B", "")) {
		t.Error(f, ok)
	}
	for _, name := range []string{"", "C", "a", "AA"} {
		if f, ok := tab.Face(name); ok || !f.Same(face.Face{}) {
			t.Errorf("%q: %v, %v", name, f, ok)
		}
	}
	if f, ok := hier.New().Face("A"); ok || !f.Same(face.Face{}) {
		t.Error(f, ok)
	}
}

// P8.1: a table keeps nothing that it is handed, and hands out nothing that it keeps.
func TestTableSharesNothing(t *testing.T) {
	made := func() face.Face {
		return face.Face{Name: "A", Fields: []ast.Var{field("x", ast.Int())}, Methods: []face.Sig{sig("m", ast.Int(), ast.Bool()), sig("n", ast.Int(), ast.Bool())}}
	}
	turn := func(f face.Face) {
		f.Fields[0] = field("y", ast.Bool())
		f.Methods[0].Params[0] = ast.Int()
		f.Methods[1] = sig("o", ast.Bool())
	}
	given := made()
	list := []face.Face{given}
	tab := hier.New(list...)
	if !list[0].Same(made()) {
		t.Error("turned")
	}
	turn(given)
	list[0] = below("A", "B")
	told, _ := tab.Face("A")
	if !told.Same(made()) {
		t.Error(told)
	}
	turn(told)
	if again, _ := tab.Face("A"); !again.Same(made()) {
		t.Error(again)
	}
	_, m, _ := tab.Method("A", "m", false)
	m.Params[0] = ast.Int()
	if again, _ := tab.Face("A"); !again.Same(made()) {
		t.Error(again)
	}
	all, _ := tab.Above("A")
	all[0] = "B"
	if again, _ := tab.Above("A"); !slices.Equal(again, []string{"A"}) {
		t.Error(again)
	}
	types := []ast.Type{ast.Int(), ast.Of("A")}
	tab.Known(types...)
	if !slices.Equal(types, []ast.Type{ast.Int(), ast.Of("A")}) {
		t.Error(types)
	}
}

// P8.1: a table of nothing, nil or not made by New, has nothing, and none of its calls panics.
func TestTablesOfNothing(t *testing.T) {
	for i, tab := range []*hier.Table{nil, new(hier.Table), hier.New()} {
		if f, ok := tab.Face("A"); ok || !f.Same(face.Face{}) {
			t.Error(i, f, ok)
		}
		want := []string{"A"}
		if tab == nil {
			want = nil
		}
		if got := tab.Seen(); !slices.Equal(got, want) {
			t.Error(i, got)
		}
		if all, ok := tab.Above("A"); ok || len(all) > 0 {
			t.Error(i, all, ok)
		}
		if all, ok := tab.Above(""); !ok || len(all) > 0 {
			t.Error(i, all, ok)
		}
		if tab.Below("A", "A") || tab.Common("A", "A") != "" || tab.Check("A") != api.ErrName || tab.Check("") != api.ErrName {
			t.Error(i)
		}
		if o, x, ok := tab.Field("A", "x"); ok || o != "" || x != (ast.Type{}) {
			t.Error(i, o, x, ok)
		}
		if o, m, ok := tab.Method("A", "m", false); ok || o != "" || !m.Same(face.Sig{}) {
			t.Error(i, o, m, ok)
		}
		if tab.Known(ast.Of("A")) || !tab.Known(ast.Int(), array("bool")) || !tab.Known() {
			t.Error(i, "Known")
		}
		if tab.Fits(ast.Of("A"), ast.Of("B")) || !tab.Fits(ast.Of("A"), ast.Of("A")) {
			t.Error(i, "Fits")
		}
	}
}

// P8.1: Seen is in order, each once, those too that aren't there, and none is told again.
func TestSeen(t *testing.T) {
	tab := shapes()
	if got := tab.Seen(); len(got) > 0 {
		t.Error(got)
	}
	for _, name := range []string{"Z", "A", "None", "A", "b", "Z", "B", "\xff", "A"} {
		tab.Face(name)
	}
	if got := tab.Seen(); !slices.Equal(got, []string{"A", "B", "None", "Z", "b", "\xff"}) {
		t.Error(got)
	}
	if got := tab.Seen(); len(got) > 0 {
		t.Error(got)
	}
	tab.Face("A")
	first := tab.Seen()
	tab.Face("C")
	if got := tab.Seen(); !slices.Equal(got, []string{"C"}) || !slices.Equal(first, []string{"A"}) {
		t.Error(got, first)
	}
	tab.Face("")
	if got := tab.Seen(); !slices.Equal(got, []string{""}) {
		t.Error(got)
	}
	// Another table has been asked for nothing.
	if got := shapes().Seen(); len(got) > 0 {
		t.Error(got)
	}
}

// seen is what was looked at; whether no name is asked for is the table's own.
func seen(tab *hier.Table) []string {
	return slices.DeleteFunc(tab.Seen(), func(name string) bool { return name == "" })
}

// P8.1: each call looks at just what it asks for.
func TestLookedAt(t *testing.T) {
	tab := table(t, "class A { field int x; method int m() { } static method int s() { } }",
		"class B extends A { field B y; method int n() { } }", "class C extends B { field P[] p; method Q q(R[] r, int i) { } }",
		"class P { }", "class Q { }", "class R { }", "class I extends None { }", "class E extends F { }", "class F extends E { }")
	for i, x := range []struct {
		call func()
		want []string
	}{
		{func() { tab.Above("C") }, []string{"A", "B", "C"}},
		{func() { tab.Above("A") }, []string{"A"}},
		{func() { tab.Above("I") }, []string{"I", "None"}},
		{func() { tab.Above("Nobody") }, []string{"Nobody"}},
		{func() { tab.Above("E") }, []string{"E", "F"}},
		{func() { tab.Above("") }, nil},
		{func() { tab.Below("C", "A") }, []string{"A", "B", "C"}},
		{func() { tab.Below("B", "P") }, []string{"A", "B"}},
		{func() { tab.Common("C", "B") }, []string{"A", "B", "C"}},
		{func() { tab.Common("B", "P") }, []string{"A", "B", "P"}},
		{func() { tab.Field("C", "x") }, []string{"A", "B", "C"}},
		{func() { tab.Field("C", "none") }, []string{"A", "B", "C"}},
		{func() { tab.Method("C", "m", false) }, []string{"A", "B", "C"}},
		{func() { tab.Method("B", "m", true) }, []string{"A", "B"}},
		{func() { tab.Known(ast.Int(), ast.Of("P"), array("Q"), array("bool")) }, []string{"P", "Q"}},
		{func() { tab.Known(ast.Of("None")) }, []string{"None"}},
		{func() { tab.Known() }, nil},
		{func() { tab.Fits(ast.Of("B"), ast.Of("A")) }, []string{"A", "B"}},
		{func() { tab.Fits(ast.Int(), ast.Bool()) }, nil},
		{func() { tab.Check("C") }, []string{"A", "B", "C", "P", "Q", "R"}},
		{func() { tab.Check("A") }, []string{"A"}},
		{func() { tab.Check("I") }, []string{"I", "None"}},
		{func() { tab.Check("E") }, []string{"E", "F"}},
		{func() { tab.Check("Nobody") }, []string{"Nobody"}},
		{func() { tab.Seen() }, nil},
	} {
		x.call()
		if got := seen(tab); !slices.Equal(got, x.want) {
			t.Error(i, got, x.want)
		}
	}
}

// P8.2: from a class on, as long as there is a face of each, and none comes twice.
func TestAbove(t *testing.T) {
	tab := shapes()
	for name, want := range map[string]struct {
		all   []string
		whole bool
	}{
		"": {nil, true}, "A": {[]string{"A"}, true}, "B": {[]string{"B", "A"}, true}, "D": {[]string{"D", "C", "A"}, true},
		"None": {nil, false}, "I": {[]string{"I"}, false}, "J": {[]string{"J", "I"}, false},
		"E": {[]string{"E", "F"}, false}, "F": {[]string{"F", "E"}, false}, "G": {[]string{"G", "E", "F"}, false}, "S": {[]string{"S"}, false},
	} {
		if all, whole := tab.Above(name); !slices.Equal(all, want.all) || whole != want.whole {
			t.Errorf("%q: %v, %v", name, all, whole)
		}
	}
	// A face of no name is above none, and of no name none is.
	odd := hier.New(face.Face{Super: "A", Fields: []ast.Var{field("x", ast.Int())}}, below("A", ""))
	if all, whole := odd.Above(""); !whole || len(all) > 0 {
		t.Error(all, whole)
	}
	if all, whole := odd.Above("A"); !whole || !slices.Equal(all, []string{"A"}) {
		t.Error(all, whole)
	}
	if _, _, ok := odd.Field("A", "x"); ok || odd.Below("A", "") || odd.Check("") != api.ErrName {
		t.Error("no name")
	}
}

// P8.2: who is below whom: just those who are among those above.
func TestBelow(t *testing.T) {
	tab := shapes()
	names := []string{"", "A", "B", "C", "D", "Z", "None", "I", "J", "E", "F", "G", "S"}
	want := map[string]string{"A": "A", "B": "AB", "C": "AC", "D": "ACD", "Z": "Z", "I": "I", "J": "IJ", "E": "EF", "F": "EF", "G": "EFG", "S": "S"}
	for _, name := range names {
		for _, other := range names {
			is := len(other) == 1 && slices.Contains([]byte(want[name]), other[0])
			if tab.Below(name, other) != is {
				t.Errorf("%q, %q: not %v", name, other, is)
			}
		}
	}
}

// P8.2: the first one of those above one that is above the other; none.
func TestCommon(t *testing.T) {
	tab := shapes()
	for _, x := range [][3]string{
		{"B", "C", "A"}, {"C", "B", "A"}, {"B", "D", "A"}, {"D", "B", "A"}, {"D", "C", "C"}, {"C", "D", "C"}, {"A", "D", "A"}, {"D", "A", "A"},
		{"D", "D", "D"}, {"A", "A", "A"}, {"A", "Z", ""}, {"Z", "B", ""},
		{"", "", ""}, {"", "A", ""}, {"A", "", ""}, {"None", "None", ""}, {"None", "A", ""}, {"A", "None", ""},
		{"I", "I", "I"}, {"J", "I", "I"}, {"I", "J", "I"}, {"I", "A", ""},
		{"E", "F", "E"}, {"F", "E", "F"}, {"G", "E", "E"}, {"E", "G", "E"}, {"G", "F", "E"}, {"F", "G", "F"}, {"S", "S", "S"}, {"S", "E", ""},
	} {
		if got := tab.Common(x[0], x[1]); got != x[2] {
			t.Errorf("%q, %q: %q, not %q", x[0], x[1], got, x[2])
		}
	}
}

// members is a class C below B below A: of each what another one has, too, and what no other one has.
func members() *hier.Table {
	return hier.New(
		face.Face{Name: "A", Fields: []ast.Var{field("a", ast.Int()), field("all", ast.Int()), field("ab", ast.Bool()), field("", ast.Int())},
			Methods: []face.Sig{sig("a", ast.Int()), sig("all", ast.Int()), static(sig("s", ast.Int(), ast.Int())), sig("turns", ast.Int()), static(sig("late", ast.Bool()))}},
		face.Face{Name: "B", Super: "A", Fields: []ast.Var{field("z", ast.Bool()), field("ab", ast.Of("B")), field("all", ast.Bool()), field("z", ast.Int())},
			Methods: []face.Sig{sig("all", ast.Bool()), static(sig("turns", ast.Bool())), sig("two", ast.Int()), static(sig("two", ast.Int())), static(sig("late", ast.Int()))}},
		face.Face{Name: "C", Super: "B", Fields: []ast.Var{field("all", array("C")), field("c", ast.Int())},
			Methods: []face.Sig{sig("all", ast.Of("C"), ast.Int()), sig("late", ast.Int())}},
		face.Face{Name: "I", Super: "None", Fields: []ast.Var{field("x", ast.Int())}, Methods: []face.Sig{sig("m", ast.Int())}},
		face.Face{Name: "E", Super: "F", Fields: []ast.Var{field("x", ast.Int())}, Methods: []face.Sig{sig("m", ast.Int())}},
		face.Face{Name: "F", Super: "E", Fields: []ast.Var{field("y", ast.Int())}, Methods: []face.Sig{static(sig("m", ast.Int()))}},
	)
}

// P8.2: whose field it is, and its type: of the first one of those above who has one.
func TestField(t *testing.T) {
	tab := members()
	for _, x := range []struct {
		class, name, owner string
		of                 ast.Type
	}{
		{"C", "all", "C", array("C")}, {"B", "all", "B", ast.Bool()}, {"A", "all", "A", ast.Int()},
		{"C", "ab", "B", ast.Of("B")}, {"A", "ab", "A", ast.Bool()}, {"C", "a", "A", ast.Int()}, {"C", "c", "C", ast.Int()},
		{"C", "z", "B", ast.Bool()}, {"C", "", "A", ast.Int()},
		{"I", "x", "I", ast.Int()}, {"E", "y", "F", ast.Int()}, {"F", "x", "E", ast.Int()}, {"F", "y", "F", ast.Int()},
	} {
		if owner, of, ok := tab.Field(x.class, x.name); !ok || owner != x.owner || of != x.of {
			t.Errorf("%s, %q: %q, %v, %v", x.class, x.name, owner, of, ok)
		}
	}
	for _, x := range [][2]string{{"B", "c"}, {"A", "z"}, {"A", "s"}, {"A", "none"}, {"", "a"}, {"None", "a"}, {"I", "a"}, {"E", "a"}, {"E", ""}} {
		if owner, of, ok := tab.Field(x[0], x[1]); ok || owner != "" || of != (ast.Type{}) {
			t.Errorf("%q: %q, %v, %v", x, owner, of, ok)
		}
	}
}

// P8.2: whose method it is: of a face whose first one of that name is static, or isn't, as is said.
func TestMethod(t *testing.T) {
	tab := members()
	for _, x := range []struct {
		class, name string
		static      bool
		owner       string
		sig         face.Sig
	}{
		{"C", "all", false, "C", sig("all", ast.Of("C"), ast.Int())}, {"B", "all", false, "B", sig("all", ast.Bool())}, {"A", "all", false, "A", sig("all", ast.Int())},
		{"C", "a", false, "A", sig("a", ast.Int())}, {"C", "s", true, "A", static(sig("s", ast.Int(), ast.Int()))},
		{"C", "turns", false, "A", sig("turns", ast.Int())}, {"C", "turns", true, "B", static(sig("turns", ast.Bool()))},
		{"C", "two", false, "B", sig("two", ast.Int())},
		{"C", "late", true, "B", static(sig("late", ast.Int()))}, {"A", "late", true, "A", static(sig("late", ast.Bool()))}, {"C", "late", false, "C", sig("late", ast.Int())},
		{"I", "m", false, "I", sig("m", ast.Int())}, {"F", "m", false, "E", sig("m", ast.Int())}, {"E", "m", true, "F", static(sig("m", ast.Int()))},
	} {
		if owner, m, ok := tab.Method(x.class, x.name, x.static); !ok || owner != x.owner || !m.Same(x.sig) {
			t.Errorf("%s, %q, %v: %q, %v, %v", x.class, x.name, x.static, owner, m, ok)
		}
	}
	for _, x := range []struct {
		class, name string
		static      bool
	}{
		{"C", "all", true}, {"C", "s", false}, {"A", "turns", true}, {"B", "two", true}, {"B", "late", false},
		{"C", "none", false}, {"C", "c", false}, {"", "a", false}, {"None", "a", false}, {"I", "m", true},
	} {
		if owner, m, ok := tab.Method(x.class, x.name, x.static); ok || owner != "" || !reflect.DeepEqual(m, face.Sig{}) {
			t.Errorf("%v: %q, %v, %v", x, owner, m, ok)
		}
	}
}

// P8.2: of a great many above one another all calls end soon.
func TestManyAbove(t *testing.T) {
	const many = 100000
	list := []face.Face{below("C0", "C"+strconv.Itoa(many-1))}
	for i := range many - 1 {
		list = append(list, below("C"+strconv.Itoa(i+1), "C"+strconv.Itoa(i)))
	}
	round := hier.New(list...)
	if all, whole := round.Above("C7"); whole || len(all) != many || all[many-1] != "C8" {
		t.Error(len(all), whole)
	}
	if round.Common("C9", "C5") != "C9" || round.Check("C3") != api.ErrCycle || len(round.Seen()) != many {
		t.Error("round")
	}
	list[0] = below("C0", "")
	line := hier.New(list...)
	if line.Common("C99999", "C5") != "C5" || line.Common("C5", "C99999") != "C5" || !line.Below("C99999", "C0") || line.Check("C99999") != api.OK {
		t.Error("line")
	}
	line = hier.New(append(list, below("D", ""))...)
	if line.Common("C99999", "D") != "" {
		t.Error("none in common")
	}
}
