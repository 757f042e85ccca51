package verify_test

import (
	"slices"
	"strconv"
	"strings"
	"testing"

	"kiln/ast"
	"kiln/face"
	"kiln/hier"
	"kiln/op"
	"kiln/parse"
)

// words is all that words may be.
func words() []string { return append(strings.Fields(sorts), "null") }

// laid is code that lays a word of a type.
func laid(sort string) string {
	if sort == "null" {
		return "null; "
	}
	return "local " + local(sort) + "; "
}

// table has the world's faces.
func table(t testing.TB) *hier.Table {
	t.Helper()
	var list []face.Face
	for _, s := range world() {
		c, _ := parse.Class(s)
		list = append(list, face.Of(c))
	}
	return hier.New(list...)
}

// is holds code to leave a word of just this type on the stack: all the sorts that it fits take it, and no others.
func is(t testing.TB, text, sort string) {
	t.Helper()
	tab := table(t)
	for i, s := range strings.Fields(sorts) {
		probe := text + "static P.p" + strconv.Itoa(i) + "; return"
		if tab.Fits(typeOf(sort), typeOf(s)) {
			right(t, probe)
		} else {
			wrong(t, probe, strings.Count(text, ";"))
		}
	}
}

// row is an instruction, the types that it takes, and the one that it lays; * stands for all, *[] for arrays and null, *C for classes and null.
type row struct {
	text  string
	takes string
	lays  string
}

func rows() []row {
	return []row{
		{"int 0", "", "int"},
		{"bool 0", "", "bool"},
		{"bool 1", "", "bool"},
		{"null", "", "null"},
		{"local " + local("D"), "", "D"},
		{"local " + local("B[]"), "", "B[]"},
		{"store" + u, "*", ""},
		{"store " + local("int"), "*", ""},
		{"add", "int int", "int"},
		{"sub", "int int", "int"},
		{"mul", "int int", "int"},
		{"div", "int int", "int"},
		{"mod", "int int", "int"},
		{"less", "int int", "bool"},
		{"most", "int int", "bool"},
		{"neg", "int", "int"},
		{"not", "bool", "bool"},
		{"get A.n", "A", "int"},
		{"get A.f", "A", "bool"},
		{"get A.b", "A", "B"},
		{"get A.xs", "A", "int[]"},
		{"get B.ls", "B", "A[]"},
		{"get E.e", "E", "E"},
		{"put A.n", "A int", ""},
		{"put A.f", "A bool", ""},
		{"put A.b", "A B", ""},
		{"put A.xs", "A int[]", ""},
		{"put B.ls", "B A[]", ""},
		{"put E.e", "E E", ""},
		{"new A", "", "A"},
		{"new D", "", "D"},
		{"array int[]", "int", "int[]"},
		{"array B[]", "int", "B[]"},
		{"load int[]", "int[] int", "int"},
		{"load bool[]", "bool[] int", "bool"},
		{"load A[]", "A[] int", "A"},
		{"save int[]", "int[] int int", ""},
		{"save bool[]", "bool[] int bool", ""},
		{"save A[]", "A[] int A", ""},
		{"save B[]", "B[] int B", ""},
		{"length", "*[]", "int"},
		{"cast A", "*C", "A"},
		{"cast D", "*C", "D"},
		{"cast E", "*C", "E"},
		{"is A", "*C", "bool"},
		{"is E", "*C", "bool"},
		{"call A.m", "A int B", "int"},
		{"call B.m", "B int B", "int"},
		{"call A.self", "A", "A"},
		{"call B.own", "B", "bool"},
		{"call D.list", "D D", "int[]"},
		{"static A.s", "bool int[] A", "bool"},
		{"static A.made", "", "B"},
		{"unless END", "bool", ""},
		{"print", "int", ""},
		{"pop", "*", ""},
	}
}

// takes tells whether a word may be taken where a row asks for one.
func takes(tab *hier.Table, sort, want string) bool {
	x := typeOf(sort)
	switch want {
	case "*":
		return true
	case "*[]":
		return x.Array || sort == "null"
	case "*C":
		return x.Class() || sort == "null"
	}
	return tab.Fits(x, typeOf(want))
}

// choices calls with each choice of n words.
func choices(n int, call func(list []string)) {
	var more func(list []string)
	more = func(list []string) {
		if len(list) == n {
			call(list)
			return
		}
		for _, s := range words() {
			more(append(slices.Clone(list), s))
		}
	}
	more(nil)
}

// P15.2: each instruction takes words that fit, the last one on top, of all choices of words; and needs all of them.
func TestTakes(t *testing.T) {
	tab := table(t)
	for _, r := range rows() {
		want := strings.Fields(r.takes)
		choices(len(want), func(list []string) {
			if len(list) == 3 && testing.Short() {
				return
			}
			text, fits := "", true
			for i, s := range list {
				text += laid(s)
				fits = fits && takes(tab, s, want[i])
			}
			at := len(list)
			if fits {
				at = -1
			}
			plain().holds(t, text+r.text+"; END: int 0; return", at)
		})
		for n := range want {
			text := ""
			for _, s := range want[len(want)-n:] {
				text += laid(some(s))
			}
			wrong(t, text+r.text+"; END: int 0; return", n)
		}
	}
}

// some is a type that a row takes.
func some(want string) string {
	switch want {
	case "*":
		return "int"
	case "*[]", "*C":
		return "null"
	}
	return want
}

// P15.2: what each instruction lays, and that it leaves what lies beneath.
func TestLays(t *testing.T) {
	for _, r := range rows() {
		ahead := ""
		for _, s := range strings.Fields(r.takes) {
			ahead += laid(some(s))
		}
		// What goes on somewhere else goes on behind itself here.
		text := strings.Replace(r.text, "END", strconv.Itoa(strings.Count(ahead, ";")+1), 1) + "; "
		if r.lays != "" {
			is(t, ahead+text, r.lays)
			is(t, ahead+text+"pop; "+laid("E"), "E")
			wrong(t, ahead+text+"pop; pop; int 0; return", strings.Count(ahead, ";")+2)
			continue
		}
		wrong(t, ahead+text+"pop; int 0; return", strings.Count(ahead, ";")+1)
	}
	// What lies beneath stays.
	for _, r := range rows() {
		text := laid("C") + laid("bool")
		for _, s := range strings.Fields(r.takes) {
			text += laid(some(s))
		}
		text += strings.Replace(r.text, "END", strconv.Itoa(strings.Count(text, ";")+1), 1) + "; "
		if r.lays != "" {
			text += "pop; "
		}
		is(t, text, "bool")
		is(t, text+"pop; ", "C")
	}
}

// P15.2: Same takes two words of one type that has no objects, Other two that have: of all pairs.
func TestHeld(t *testing.T) {
	choices(2, func(list []string) {
		x, y := typeOf(list[0]), typeOf(list[1])
		text := laid(list[0]) + laid(list[1])
		for code, ok := range map[string]bool{"same": x == y && !x.Object(), "other": x.Object() && y.Object()} {
			at := 2
			if ok {
				at = -1
			}
			plain().holds(t, text+code+"; pop; int 0; return", at)
		}
	})
	for _, code := range []string{"same", "other"} {
		wrong(t, code+"; pop; int 0; return", 0)
		wrong(t, "int 0; "+code+"; pop; int 0; return", 1)
		wrong(t, "null; "+code+"; pop; int 0; return", 1)
	}
	is(t, "int 0; int 0; same; ", "bool")
	is(t, "bool 0; bool 1; same; ", "bool")
	is(t, "null; null; other; ", "bool")
	is(t, laid("A[]")+laid("E")+"other; ", "bool")
}

// P15.2: Return takes what the method returns, whatever lies beneath.
func TestReturn(t *testing.T) {
	tab := table(t)
	for _, ret := range strings.Fields(sorts) {
		x := plain()
		x.ret = ret
		for _, s := range words() {
			for _, beneath := range []string{"", "null; int 0; "} {
				text, at := beneath+laid(s), -1
				if !tab.Fits(typeOf(s), typeOf(ret)) {
					at = strings.Count(text, ";")
				}
				x.holds(t, text+"return", at)
			}
		}
		x.holds(t, "return", 0)
	}
}

// P15.2: Local asks for one that is known, Store makes it so, of whatever type.
func TestLocals(t *testing.T) {
	wrong(t, "local"+u+"; return", 0)
	wrong(t, "int 0; store"+v+"; local"+u+"; return", 2)
	for _, s := range words() {
		is(t, laid(s)+"store"+u+"; local"+u+"; ", s)
		is(t, "int 0; store"+u+"; "+laid(s)+"store"+u+"; local"+u+"; ", s)
		is(t, laid(s)+"store"+u+"; local"+u+"; store"+v+"; null; store"+u+"; local"+v+"; ", s)
		// A parameter may be of another type behind it.
		is(t, laid(s)+"store "+local("E")+"; local "+local("E")+"; ", s)
	}
	// One local is turned, the others stay.
	is(t, "int 0; store"+u+"; null; store"+v+"; local"+u+"; ", "int")
	is(t, "null; store "+local("A")+"; local "+local("B")+"; ", "B")
}

// P15.1: the first locals are this, unless the method is static, and the parameters; others are unknown.
func TestFirstLocals(t *testing.T) {
	x := trial{head: "class T extends B {", params: "bool y, int[] xs", ret: "A", stack: 2, more: 1}
	x.holds(t, "local 0; return", -1)
	x.holds(t, "local 1; return", 1)
	x.holds(t, "local 2; return", 1)
	x.holds(t, "local 3; return", 0)
	x.holds(t, "local 1; print", 1)
	x.holds(t, "local 2; length; print; local 0; get B.ls; pop; null; return", -1)
	x.holds(t, "local 1; unless L; L: local 0; return", -1)
	x.holds(t, "local 0; get E.e; return", 1)
	x.ret = "T"
	x.holds(t, "local 0; return", -1)
	x.static = true
	x.holds(t, "local 0; return", 1)
	x.holds(t, "local 0; unless L; L: local 1; length; print; null; return", -1)
	x.holds(t, "local 2; return", 0)
}

// P15.2: Call of a Method that isn't static, Static of one that is.
func TestStaticOrNot(t *testing.T) {
	for _, s := range []string{"", laid("A"), laid("bool") + laid("int[]") + laid("A"), laid("A") + laid("bool") + laid("int[]") + laid("A")} {
		wrong(t, s+"call A.s; unless END; END: int 0; return", strings.Count(s, ";"))
		wrong(t, s+"call A.made; pop; int 0; return", strings.Count(s, ";"))
	}
	for _, s := range []string{"", laid("A"), laid("int") + laid("B"), laid("A") + laid("int") + laid("B")} {
		wrong(t, s+"static A.m; print; int 0; return", strings.Count(s, ";"))
		wrong(t, s+"static A.self; pop; int 0; return", strings.Count(s, ";"))
	}
}

// P15.2: the type of Array, Load and Save is an array.
func TestArrayTypes(t *testing.T) {
	for _, kind := range strings.Fields("int bool A E") {
		choices(2, func(list []string) {
			text := laid(list[0]) + laid(list[1])
			wrong(t, text+"array "+kind+"; pop; int 0; return", 2)
			wrong(t, text+"load "+kind+"; pop; int 0; return", 2)
			wrong(t, text+laid(kind)+"save "+kind+"; int 0; return", 3)
		})
	}
}

// P15.2: behind all but Jump and Return there is a next one.
func TestNextIsThere(t *testing.T) {
	for _, r := range rows() {
		text := ""
		for _, s := range strings.Fields(r.takes) {
			text += laid(some(s))
		}
		wrong(t, text+strings.Replace(r.text, "END", "0", 1), strings.Count(text, ";"))
	}
	right(t, "jump 0")
	right(t, "int 0; return")
	right(t, "jump L; M: int 0; return; L: jump M")
}

// P15.2: where nothing comes to there is no fault.
func TestNothingComes(t *testing.T) {
	for _, r := range append(rows(), row{"same", "", ""}, row{"other", "", ""}, row{"return", "", ""}, row{"local" + u, "", ""}) {
		dead := strings.Replace(r.text, "END", "0", 1)
		right(t, "int 0; return; "+dead)
		right(t, "int 0; return; "+dead+"; "+dead+"; jump 0")
		right(t, "jump L; "+dead+"; L: int 0; return")
		right(t, "jump L; int 0; M: "+dead+"; unless M; "+dead+"; L: int 0; return; jump M")
	}
	// A place that a jump alone comes to, which nothing comes to either.
	right(t, "int 0; return; bool 1; unless M; jump M; M: add")
}

// P15.2: of words there may be Stack at most.
func TestStack(t *testing.T) {
	x := plain()
	for x.stack = range 4 {
		for n := range 6 {
			at := -1
			if n > x.stack {
				at = x.stack
			}
			x.holds(t, strings.Repeat("null; ", n)+"jump L; L: jump L", at)
		}
	}
	// What takes words first may lay some again.
	for _, r := range rows() {
		text := ""
		x.stack = 0
		for _, s := range strings.Fields(r.takes) {
			text += laid(some(s))
			x.stack++
		}
		lays := 0
		if r.lays != "" {
			lays = 1
		}
		for _, high := range []int{0, 1, 4} {
			text := strings.Repeat("null; ", high) + text
			x.stack = high + len(strings.Fields(r.takes))
			at := -1
			if lays > len(strings.Fields(r.takes)) {
				at = strings.Count(text, ";")
			}
			x.holds(t, text+r.text+"; END: jump END", at)
			x.stack += lays
			x.holds(t, text+r.text+"; END: jump END", -1)
		}
	}
}

// All codes but Jump come in the rows, or in tests of their own.
func TestRowsAreAll(t *testing.T) {
	own := []string{"same", "other", "return", "jump"}
	for c := op.Int; c <= op.Zero; c++ {
		has := func(r row) bool { return strings.Fields(r.text)[0] == c.Name() }
		if !slices.Contains(own, c.Name()) && !slices.ContainsFunc(rows(), has) {
			t.Error(c.Name())
		}
	}
	if !typeOf("A").Class() || typeOf("null") != ast.Nothing() {
		t.Error("types")
	}
}
