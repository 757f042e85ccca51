package class_test

import (
	"fmt"
	"slices"
	"strconv"
	"strings"

	"kiln/api"
	"kiln/ast"
	"kiln/class"
	"kiln/face"
	"kiln/op"
)

// The longest name that a class may have, and a member, and each with a byte more.
var (
	most     = "A" + strings.Repeat("x", api.MaxName-1)
	over     = most + "x"
	longest  = strings.Repeat("z", api.MaxName)
	overlong = longest + "z"
)

func array(name string) ast.Type { return ast.Type{Name: name, Array: true} }

func v(name string, t ast.Type) ast.Var { return ast.Var{Name: name, Type: t} }

func field(class1, name string, t ast.Type) class.Field {
	return class.Field{Class: class1, Var: v(name, t)}
}

func sig(name string, static bool, ret ast.Type, params ...ast.Type) face.Sig {
	return face.Sig{Name: name, Static: static, Ret: ret, Params: params}
}

func method(class1 string, s face.Sig) class.Method { return class.Method{Class: class1, Sig: s} }

// body has each code once, with the last number that there is of its pool, and so many Pops behind them.
func body(locals, stack, pops int) class.Body {
	b := class.Body{Locals: locals, Stack: stack}
	for c := op.Int; c <= op.Zero; c++ {
		b.Code = append(b.Code, op.Instr{Code: c})
	}
	for range pops {
		b.Code = append(b.Code, op.Instr{Code: op.Pop})
	}
	for i := range b.Code {
		if n := counts(b)[b.Code[i].Code.Pool()]; n > 0 {
			b.Code[i].A = n - 1
		}
	}
	return b
}

// counts is how many there are of each kind for a body of the file some: of no two kinds as many.
func counts(b class.Body) map[rune]int {
	return map[rune]int{'n': 3, 'c': 4, 't': 5, 'f': 6, 'm': 7, 'l': b.Locals, 'j': len(b.Code), 'b': 2}
}

// some is a file that is right, made anew at each call, so that one may be turned without the other.
func some() class.File {
	m := sig("m", true, ast.Bool(), ast.Int(), array("C"))
	n := sig("n", false, ast.Of("D"), ast.Bool())
	f := class.File{Face: face.Face{Name: "C", Super: "D", Fields: []ast.Var{v("f", ast.Of("E")), v("g", array("int"))}, Methods: []face.Sig{m, n}}}
	f.Nums = []int64{-5, 300, 1 << 58}
	f.Classes = []string{"D", "C", "A9_", "D"}
	f.Types = []ast.Type{ast.Int(), array("bool"), ast.Of("C"), array("C"), ast.Int()}
	for _, name := range []string{"f", "g", "b", "f", "a", "Z"} {
		f.Pool.Fields = append(f.Pool.Fields, field("E", name, array("bool")))
	}
	for _, name := range []string{"z", "m", "m", "b", "a", "A", "n"} {
		f.Pool.Methods = append(f.Pool.Methods, method("D", sig(name, name == "m", array("C"), ast.Int(), ast.Of("C"))))
	}
	f.Bodies = []class.Body{body(8, 3, 1), body(12, 0, 7)}
	return f
}

// bare is a file with one method, which returns at once, and nothing else.
func bare(static bool, params int) class.File {
	f := class.File{Face: face.Face{Name: "A", Methods: []face.Sig{sig("m", static, ast.Int(), ints(params)...)}}}
	f.Bodies = []class.Body{{Locals: params + 1, Code: []op.Instr{{Code: op.Return}}}}
	return f
}

func ints(n int) []ast.Type { return slices.Repeat([]ast.Type{ast.Int()}, n) }

// names are so many that rise.
func names(n int) []string {
	var all []string
	for i := range n {
		all = append(all, "m"+strconv.Itoa(1000+i))
	}
	return all
}

// many is a file with so many methods, each with a body.
func many(n int) class.File {
	f := class.File{Face: face.Face{Name: "A"}}
	for _, name := range names(n) {
		f.Face.Methods = append(f.Face.Methods, sig(name, true, ast.Int()))
		f.Bodies = append(f.Bodies, class.Body{Code: []op.Instr{{Code: op.Return}}})
	}
	return f
}

// full is a file with as much as there may be of each thing, though not of all things in each other.
func full() class.File {
	f := many(api.MaxMembers)
	f.Name, f.Super = most, most
	for _, name := range names(api.MaxMembers) {
		f.Face.Fields = append(f.Face.Fields, v(name, array(most)))
	}
	f.Face.Methods[0] = sig("a", false, array(most), ints(api.MaxMembers)...)
	f.Nums = slices.Repeat([]int64{-1 << 63}, api.MaxCode)
	f.Classes = slices.Repeat([]string{most}, api.MaxCode)
	f.Types = slices.Repeat([]ast.Type{array(most)}, api.MaxCode)
	f.Pool.Fields = slices.Repeat([]class.Field{field(most, longest, array(most))}, api.MaxCode)
	f.Pool.Methods = slices.Repeat([]class.Method{method(most, sig(longest, true, array(most), array(most)))}, api.MaxCode)
	f.Pool.Methods[9].Params = ints(api.MaxMembers)
	f.Bodies[0] = class.Body{Locals: 401, Stack: 1000}
	for i := range api.MaxCode {
		c := op.Code(1 + i%32)
		last := map[rune]int{'n': 16383, 'c': 16383, 't': 16383, 'f': 16383, 'm': 16383, 'l': 400, 'j': 16383, 'b': 1}[c.Pool()]
		f.Bodies[0].Code = append(f.Bodies[0].Code, op.Instr{Code: c, A: last})
	}
	return f
}

func same(a, b class.File) bool {
	return a.Face.Same(b.Face) &&
		slices.Equal(a.Nums, b.Nums) && slices.Equal(a.Classes, b.Classes) && slices.Equal(a.Types, b.Types) &&
		slices.Equal(a.Pool.Fields, b.Pool.Fields) &&
		slices.EqualFunc(a.Pool.Methods, b.Pool.Methods, func(x, y class.Method) bool { return x.Class == y.Class && x.Sig.Same(y.Sig) }) &&
		slices.EqualFunc(a.Bodies, b.Bodies, func(x, y class.Body) bool {
			return x.Locals == y.Locals && x.Stack == y.Stack && slices.Equal(x.Code, y.Code)
		})
}

// none tells whether a file is the zero value.
func none(f class.File) bool { return same(f, class.File{}) }

// brief is files as text, cut off: some would fill screens.
func brief(list ...class.File) string {
	s := fmt.Sprintf("%+v", list)
	return s[:min(len(s), 1000)]
}

// edges are the first, one in between, and the last of so many.
func edges(n int) []int { return []int{0, n / 2, n - 1} }
