package gen_test

import (
	"math"
	"slices"
	"strings"
	"testing"

	"kiln/ast"
)

// value is what lays an expression that is put into a local of that type.
func value(t *testing.T, kind, text string) string {
	t.Helper()
	got := code(t, compiled(t, inMethod("let "+kind+" q = "+text+";")), "m")
	got, found := strings.CutSuffix(got, "; store 10; int 0; return")
	if !found {
		t.Error(text, got)
	}
	return got
}

func values(t *testing.T, kind string, all map[string]string) {
	t.Helper()
	for text, want := range all {
		if got := value(t, kind, text); got != want {
			t.Errorf("%s\n%s\n%s", text, got, want)
		}
	}
}

// P13.3: the kinds without Kids.
func TestLeaves(t *testing.T) {
	values(t, "int", map[string]string{"7": "int 7", "0": "int 0", "288230376151711744": "int 288230376151711744", "n": "local 1"})
	values(t, "bool", map[string]string{"true": "bool 1", "false": "bool 0", "y": "local 2"})
	values(t, "T", map[string]string{"null": "null", "this": "local 0", "new T": "new T"})
	values(t, "A", map[string]string{"a": "local 3", "b": "local 4", "this": "local 0", "new B": "new B", "new A": "new A"})
	values(t, "int[]", map[string]string{"null": "null", "ns": "local 6"})
	values(t, "B[]", map[string]string{"bs": "local 9"})
}

// P13.3: a tree may have numbers that no text has.
func TestNumbers(t *testing.T) {
	list := []int64{math.MinInt64, -1, math.MaxInt64, 1 << 32, -1 << 32}
	c := ast.Class{Name: "A", Methods: []ast.Method{returns("m")}}
	for _, n := range list {
		c.Methods[0].Body = append(c.Methods[0].Body, printed(ast.Expr{Kind: ast.Num, Num: n}))
	}
	f := checked(t, c).file(t)
	if !slices.Equal(f.Nums, append(list, 0)) {
		t.Error(f.Nums)
	}
}

// P13.3: members, with the object and the arguments in order.
func TestMembers(t *testing.T) {
	values(t, "int", map[string]string{
		"a.x":                                    "local 3; get A.x int",
		"this.x":                                 "local 0; get A.x int",
		"this.next.next.b.x":                     "local 0; get T.next T; get T.next T; get A.b B; get A.x int",
		"c.x":                                    "local 5; get C.x int",
		"c.get()":                                "local 5; call C.get",
		"b.get(n)":                               "local 4; local 1; call A.get",
		"this.m(1, y, a, b, c, ns, ys, as1, bs)": "local 0; int 1; local 2; local 3; local 4; local 5; local 6; local 7; local 8; local 9; call T.m",
		"A.sum(n, b)":                            "local 1; local 4; static A.sum",
		"T.sum(A.sum(1, b), null)":               "int 1; local 4; static A.sum; null; static A.sum",
		"C.twin()":                               "static C.twin",
		"a.self().get(2)":                        "local 3; call A.self; int 2; call A.get",
	})
	values(t, "A", map[string]string{
		"a.pick(b, y, ns)":                          "local 3; local 4; local 2; local 6; call A.pick",
		"b.pick(a.self(), true, new int[2]).self()": "local 4; local 3; call A.self; bool 1; int 2; array int[]; call A.pick; call A.self",
		"b.self()": "local 4; call B.self",
		"A.one()":  "static A.one",
	})
	values(t, "bool", map[string]string{"B.twin(a, b)": "local 3; local 4; static B.twin", "T.twin(a, b)": "local 3; local 4; static B.twin", "this.y": "local 0; get A.y bool"})
}

// P13.3: arrays: the type is that of the array, not of its parts.
func TestArrays(t *testing.T) {
	values(t, "int[]", map[string]string{"new int[3]": "int 3; array int[]", "new int[n + 1]": "local 1; int 1; add; array int[]"})
	values(t, "bool[]", map[string]string{"new bool[0]": "int 0; array bool[]"})
	values(t, "A[]", map[string]string{"new A[n]": "local 1; array A[]", "a.list": "local 3; get A.list A[]"})
	values(t, "int", map[string]string{
		"ns[n]":                "local 6; local 1; load int[]",
		"new int[1][0]":        "int 1; array int[]; int 0; load int[]",
		"ns[ns[0]]":            "local 6; local 6; int 0; load int[]; load int[]",
		"ns.length":            "local 6; length",
		"bs.length":            "local 9; length",
		"new C[2].length":      "int 2; array C[]; length",
		"bs[1].list[2].x":      "local 9; int 1; load B[]; get A.list A[]; int 2; load A[]; get A.x int",
		"as1[ns.length - 1].x": "local 8; local 6; length; int 1; sub; load A[]; get A.x int",
	})
	values(t, "bool", map[string]string{"ys[0]": "local 7; int 0; load bool[]"})
	values(t, "A", map[string]string{"bs[0]": "local 9; int 0; load B[]", "as1[0]": "local 8; int 0; load A[]"})
}

// P13.3: operators.
func TestOperators(t *testing.T) {
	values(t, "int", map[string]string{
		"-n":                   "local 1; neg",
		"- -3":                 "int 3; neg; neg",
		"n + 1":                "local 1; int 1; add",
		"n - 1":                "local 1; int 1; sub",
		"n * 1":                "local 1; int 1; mul",
		"n / 1":                "local 1; int 1; div",
		"n % 1":                "local 1; int 1; mod",
		"1 - n - 2":            "int 1; local 1; sub; int 2; sub",
		"1 - (n - 2)":          "int 1; local 1; int 2; sub; sub",
		"1 + 2 * -n % (n / 3)": "int 1; int 2; local 1; neg; mul; local 1; int 3; div; mod; add",
	})
	values(t, "bool", map[string]string{
		"!y":          "local 2; not",
		"!!y":         "local 2; not; not",
		"n < 1":       "local 1; int 1; less",
		"n <= 1":      "local 1; int 1; most",
		"1 + n < n":   "int 1; local 1; add; local 1; less",
		"a is B":      "local 3; is B",
		"null is A":   "null; is A",
		"a as B is T": "local 3; cast B; is T",
		"!(c is T)":   "local 5; is T; not",
	})
	values(t, "A", map[string]string{
		"a as B":        "local 3; cast B",
		"b as A":        "local 4; cast A",
		"null as A":     "null; cast A",
		"c as T":        "local 5; cast T",
		"a as B as A":   "local 3; cast B; cast A",
		"new T as B":    "new T; cast B",
		"b.b as T":      "local 4; get A.b B; cast T",
		"as1[0] as T":   "local 8; int 0; load A[]; cast T",
		"a.self() as T": "local 3; call A.self; cast T",
	})
}

// P13.3: == and != of numbers and yeses are same, of objects, arrays and nothing other.
func TestEquals(t *testing.T) {
	for text, want := range map[string]string{
		"n @ 1":          "local 1; int 1; same",
		"y @ false":      "local 2; bool 0; same",
		"(n @ 1) @ y":    "local 1; int 1; same@; local 2; same",
		"ns[0] @ 1":      "local 6; int 0; load int[]; int 1; same",
		"ys[0] @ y":      "local 7; int 0; load bool[]; local 2; same",
		"a @ b":          "local 3; local 4; other",
		"a @ c":          "local 3; local 5; other",
		"a @ null":       "local 3; null; other",
		"null @ a":       "null; local 3; other",
		"null @ null":    "null; null; other",
		"this @ a":       "local 0; local 3; other",
		"ns @ ns":        "local 6; local 6; other",
		"ns @ ys":        "local 6; local 7; other",
		"ns @ null":      "local 6; null; other",
		"null @ ys":      "null; local 7; other",
		"as1 @ a":        "local 8; local 3; other",
		"b @ bs":         "local 4; local 9; other",
		"bs[0] @ as1[0]": "local 9; int 0; load B[]; local 8; int 0; load A[]; other",
		"a.nums @ null":  "local 3; get A.nums int[]; null; other",
		"a.y @ y":        "local 3; get A.y bool; local 2; same",
		"a.x @ n":        "local 3; get A.x int; local 1; same",
	} {
		for sign, not := range map[string]string{"==": "", "!=": "; not"} {
			if got := value(t, "bool", strings.ReplaceAll(text, "@", sign)); got != strings.ReplaceAll(want, "@", not)+not {
				t.Errorf("%s %s\n%s", sign, text, got)
			}
		}
	}
}

// P13.3: And, Or, and each within each other at either side.
func TestAndOr(t *testing.T) {
	values(t, "bool", map[string]string{
		"y && true":             "local 2; unless 4; bool 1; jump 5; bool 0",
		"y || false":            "local 2; unless 4; bool 1; jump 5; bool 0",
		"y && y":                "local 2; unless 4; local 2; jump 5; bool 0",
		"y || y":                "local 2; unless 4; bool 1; jump 5; local 2",
		"n < 1 && a == b":       "local 1; int 1; less; unless 8; local 3; local 4; other; jump 9; bool 0",
		"n < 1 || a == b":       "local 1; int 1; less; unless 6; bool 1; jump 9; local 3; local 4; other",
		"(y && ys[0]) && ys[1]": "local 2; unless 6; local 7; int 0; load bool[]; jump 7; bool 0; unless 12; local 7; int 1; load bool[]; jump 13; bool 0",
		"y && (ys[0] && ys[1])": "local 2; unless 12; local 7; int 0; load bool[]; unless 10; local 7; int 1; load bool[]; jump 11; bool 0; jump 13; bool 0",
		"y && ys[0] || ys[1]":   "local 2; unless 6; local 7; int 0; load bool[]; jump 7; bool 0; unless 10; bool 1; jump 13; local 7; int 1; load bool[]",
		"y || ys[0] && ys[1]":   "local 2; unless 4; bool 1; jump 13; local 7; int 0; load bool[]; unless 12; local 7; int 1; load bool[]; jump 13; bool 0",
		"(y || ys[0]) && ys[1]": "local 2; unless 4; bool 1; jump 7; local 7; int 0; load bool[]; unless 12; local 7; int 1; load bool[]; jump 13; bool 0",
		"y && (ys[0] || ys[1])": "local 2; unless 12; local 7; int 0; load bool[]; unless 8; bool 1; jump 11; local 7; int 1; load bool[]; jump 13; bool 0",
		"(y || ys[0]) || ys[1]": "local 2; unless 4; bool 1; jump 7; local 7; int 0; load bool[]; unless 10; bool 1; jump 13; local 7; int 1; load bool[]",
		"y || (ys[0] || ys[1])": "local 2; unless 4; bool 1; jump 13; local 7; int 0; load bool[]; unless 10; bool 1; jump 13; local 7; int 1; load bool[]",
		"!(y && y)":             "local 2; unless 4; local 2; jump 5; bool 0; not",
		"!y && !y":              "local 2; not; unless 6; local 2; not; jump 7; bool 0",
		"(y && y) == (y || y)":  "local 2; unless 4; local 2; jump 5; bool 0; local 2; unless 9; bool 1; jump 10; local 2; same",
		"ys[new bool[1].length] || B.twin(a, this) && y": "local 7; int 1; array bool[]; length; load bool[]; unless 8; bool 1; jump 15; local 3; local 0; static B.twin; unless 14; local 2; jump 15; bool 0",
	})
	values(t, "A", map[string]string{
		"a.pick(b, y && y, ns)": "local 3; local 4; local 2; unless 6; local 2; jump 7; bool 0; local 6; call A.pick",
		"a.pick(b, y || y, ns)": "local 3; local 4; local 2; unless 6; bool 1; jump 7; local 2; local 6; call A.pick",
	})
}
