package class_test

import (
	"math"
	"slices"
	"testing"

	"kiln/api"
	"kiln/ast"
	"kiln/class"
	"kiln/face"
	"kiln/op"
)

// check holds whether a file is right, and that it is encoded just if it is, and left as it was.
func check(t *testing.T, want bool, build func() class.File, what ...any) {
	t.Helper()
	f := build()
	if f.Right() != want {
		t.Error("not", want, what)
	}
	s, e := f.Encode()
	if !same(f, build()) {
		t.Error("was turned:", what)
	}
	if !want {
		if s != "" || e != api.ErrArg {
			t.Errorf("encoded as %.100q, %v: %v", s, e, what)
		}
		return
	}
	if g, e2 := class.Decode(s); e != api.OK || e2 != api.OK || !same(f, g) {
		t.Error("isn't what it is laid as:", e, e2, what)
	}
}

// checkTurn holds whether the file some is right with one turn.
func checkTurn(t *testing.T, want bool, turn func(f *class.File), what ...any) {
	t.Helper()
	check(t, want, func() class.File {
		f := some()
		turn(&f)
		return f
	}, what...)
}

func classNames() map[string]bool {
	return map[string]bool{
		"A": true, "Z": true, "M": true, "Int": true, "A9_": true, "A b\x00": true, most: true,
		"": false, "a": false, "int": false, "bool": false, "null": false, "@": false, "[": false, "_A": false, "9": false, " A": false, "É": false, over: false,
	}
}

func typeNames() map[string]bool {
	all := classNames()
	all["int"], all["bool"], all["int[]"], all["A[]"] = true, true, false, true
	return all
}

// memberNames: of these nothing is asked but how long they are.
func memberNames() map[string]bool {
	return map[string]bool{"a": true, "A": true, "int": true, "\x00": true, " ": true, longest: true, "": false, overlong: false}
}

func TestSomeIsRight(t *testing.T) {
	checkTurn(t, true, func(*class.File) {})
	check(t, true, full, "full")
	check(t, true, func() class.File { return class.File{Face: face.Face{Name: "A"}} }, "a class of nothing")
	check(t, false, func() class.File { return class.File{} }, "nothing")
}

// P12.1: the Face is one that layer 7 says is Right.
func TestRightFace(t *testing.T) {
	for name, want := range classNames() {
		checkTurn(t, want, func(f *class.File) { f.Name = name }, "Name", name)
		checkTurn(t, want || name == "", func(f *class.File) { f.Super = name }, "Super", name)
	}
	checkTurn(t, false, func(f *class.File) { slices.Reverse(f.Face.Fields) }, "fields that fall")
	checkTurn(t, false, func(f *class.File) { slices.Reverse(f.Face.Methods) }, "methods that fall")
	checkTurn(t, false, func(f *class.File) { f.Face.Fields[1].Name = "f" }, "a field twice")
	checkTurn(t, false, func(f *class.File) { f.Face.Methods[1].Name = "m" }, "a method twice")
	checkTurn(t, false, func(f *class.File) { f.Face.Fields[1].Type = ast.Nothing() }, "a field of nothing")
	checkTurn(t, false, func(f *class.File) { f.Face.Methods[1].Ret = ast.Type{} }, "a method that returns no type")
	checkTurn(t, false, func(f *class.File) { f.Face.Methods[0].Params[1] = ast.Of("x") }, "a parameter of no type")
	check(t, true, func() class.File { return many(api.MaxMembers) }, "as many methods as may be")
	check(t, false, func() class.File { return many(api.MaxMembers + 1) }, "a method more")
	check(t, true, func() class.File { return bare(true, api.MaxMembers) }, "as many parameters as may be")
	check(t, false, func() class.File { return bare(true, api.MaxMembers+1) }, "a parameter more")
}

// P12.1: each list of the Pool has at most MaxCode parts.
func TestRightPoolLists(t *testing.T) {
	for _, n := range []int{0, 1, api.MaxCode, api.MaxCode + 1} {
		want := n <= api.MaxCode
		lists := []func(f *class.File){
			func(f *class.File) { f.Nums = make([]int64, n) },
			func(f *class.File) { f.Classes = slices.Repeat([]string{"B"}, n) },
			func(f *class.File) { f.Types = slices.Repeat([]ast.Type{ast.Int()}, n) },
			func(f *class.File) {
				f.Pool.Fields = slices.Repeat([]class.Field{field("B", "x", ast.Int())}, n)
			},
			func(f *class.File) {
				f.Pool.Methods = slices.Repeat([]class.Method{method("B", sig("x", false, ast.Int()))}, n)
			},
		}
		for i, list := range lists {
			check(t, want, func() class.File {
				f := bare(true, 0)
				list(&f)
				return f
			}, "list", i, "of", n)
		}
	}
}

// P12.1: Classes, and the classes of Fields and Methods, may be classes' names.
func TestRightPoolClasses(t *testing.T) {
	for name, want := range classNames() {
		for _, i := range edges(len(some().Classes)) {
			checkTurn(t, want, func(f *class.File) { f.Classes[i] = name }, "Classes", i, name)
		}
		for _, i := range edges(len(some().Pool.Fields)) {
			checkTurn(t, want, func(f *class.File) { f.Pool.Fields[i].Class = name }, "Fields", i, name)
		}
		for _, i := range edges(len(some().Pool.Methods)) {
			checkTurn(t, want, func(f *class.File) { f.Pool.Methods[i].Class = name }, "Methods", i, name)
		}
	}
}

// P12.1: Types, and those of Fields, and of Methods, are Good.
func TestRightPoolTypes(t *testing.T) {
	for name, want := range typeNames() {
		for _, x := range []ast.Type{ast.Of(name), array(name)} {
			for _, i := range edges(len(some().Types)) {
				checkTurn(t, want, func(f *class.File) { f.Types[i] = x }, "Types", i, x)
			}
			for _, i := range edges(len(some().Pool.Fields)) {
				checkTurn(t, want, func(f *class.File) { f.Pool.Fields[i].Type = x }, "Fields", i, x)
			}
			for _, i := range edges(len(some().Pool.Methods)) {
				checkTurn(t, want, func(f *class.File) { f.Pool.Methods[i].Ret = x }, "Ret", i, x)
				checkTurn(t, want, func(f *class.File) { f.Pool.Methods[i].Params[0] = x }, "first of Params", i, x)
				checkTurn(t, want, func(f *class.File) { f.Pool.Methods[i].Params[1] = x }, "last of Params", i, x)
			}
		}
	}
}

// P12.1: the names of Fields and Methods have 1 to MaxName bytes; Methods have at most MaxMembers parameters.
func TestRightPoolMembers(t *testing.T) {
	for name, want := range memberNames() {
		for _, i := range edges(len(some().Pool.Fields)) {
			checkTurn(t, want, func(f *class.File) { f.Pool.Fields[i].Name = name }, "Fields", i, name)
		}
		for _, i := range edges(len(some().Pool.Methods)) {
			checkTurn(t, want, func(f *class.File) { f.Pool.Methods[i].Name = name }, "Methods", i, name)
		}
	}
	for _, i := range edges(len(some().Pool.Methods)) {
		for _, static := range []bool{false, true} {
			for _, n := range []int{0, 1, api.MaxMembers, api.MaxMembers + 1} {
				s := sig("m", static, ast.Int(), ints(n)...)
				checkTurn(t, n <= api.MaxMembers, func(f *class.File) { f.Pool.Methods[i].Sig = s }, "Params", i, static, n)
			}
		}
	}
}

// P12.1: there are as many Bodies as the Face has Methods, and the Pool's Methods count for nothing there.
func TestRightManyBodies(t *testing.T) {
	checkTurn(t, false, func(f *class.File) { f.Bodies = nil }, "no bodies")
	checkTurn(t, false, func(f *class.File) { f.Bodies = f.Bodies[:1] }, "a body fewer")
	checkTurn(t, false, func(f *class.File) { f.Bodies = append(f.Bodies, body(8, 3, 1)) }, "a body more")
	checkTurn(t, false, func(f *class.File) { f.Bodies = slices.Repeat(f.Bodies[:1], len(f.Pool.Methods)) }, "as many as the Pool's Methods")
	checkTurn(t, false, func(f *class.File) { f.Face.Methods = nil }, "no methods, but bodies")
	checkTurn(t, false, func(f *class.File) { f.Face.Methods = f.Face.Methods[:1] }, "a method fewer")
	checkTurn(t, true, func(f *class.File) { f.Face.Methods, f.Bodies = nil, nil }, "none of either")
	checkTurn(t, true, func(f *class.File) { f.Face.Methods, f.Bodies = f.Face.Methods[1:], f.Bodies[1:] }, "one of each")
}

// P12.1: Locals from those that are given to 401.
func TestRightLocals(t *testing.T) {
	for _, static := range []bool{false, true} {
		for _, params := range []int{0, 1, 2, api.MaxMembers - 1, api.MaxMembers} {
			given := params + 1
			if static {
				given = params
			}
			for _, n := range []int{math.MinInt, -1, 0, 1, given - 1, given, given + 1, 200, 201, 202, 400, 401, 402, math.MaxInt} {
				check(t, given <= n && n <= 401, func() class.File {
					f := bare(static, params)
					f.Bodies[0].Locals = n
					return f
				}, "static", static, "parameters", params, "Locals", n)
			}
		}
	}
	// A body is that of the method at its own place: these two have unlike ones.
	for i, given := range []int{0, 3} {
		for _, n := range []int{0, 1, 2, 3, 4} {
			check(t, n >= given, func() class.File {
				f := many(2)
				f.Face.Methods[1].Static, f.Face.Methods[1].Params = false, ints(2)
				f.Bodies[1].Locals = 3
				f.Bodies[i].Locals = n
				return f
			}, "body", i, "Locals", n)
		}
	}
}

// P12.1: Stack from 0 to MaxStack.
func TestRightStack(t *testing.T) {
	for _, n := range []int{math.MinInt, -1, 0, 1, 999, 1000, 1001, math.MaxInt} {
		for i := range some().Bodies {
			checkTurn(t, 0 <= n && n <= api.MaxStack, func(f *class.File) { f.Bodies[i].Stack = n }, "body", i, "Stack", n)
		}
	}
}

// P12.1: from 1 to MaxCode instructions.
func TestRightManyInstructions(t *testing.T) {
	for _, n := range []int{0, 1, 2, api.MaxCode - 1, api.MaxCode, api.MaxCode + 1} {
		for i := range some().Bodies {
			code := slices.Repeat([]op.Instr{{Code: op.Pop}}, n)
			checkTurn(t, 1 <= n && n <= api.MaxCode, func(f *class.File) { f.Bodies[i].Code = code }, "body", i, "instructions", n)
		}
	}
}

// P12.1: each instruction is Right by what there is in the file, and in its own body.
func TestRightInstructions(t *testing.T) {
	for i, b := range some().Bodies {
		for _, at := range edges(len(b.Code)) {
			for c := op.Code(-1); c <= op.Zero+2; c++ {
				n, known := counts(b)[c.Pool()], c.Known()
				if c.Pool() == 0 {
					n = 1
				}
				for _, a := range []int{math.MinInt, -1, 0, 1, n - 1, n, n + 1, api.MaxCode, math.MaxInt} {
					in := op.Instr{Code: c, A: a}
					checkTurn(t, known && 0 <= a && a < n, func(f *class.File) { f.Bodies[i].Code[at] = in }, "body", i, "at", at, in)
				}
			}
		}
	}
}

// P12.1: where there is nothing no instruction names anything; where there is one thing, that alone.
func TestRightInstructionsOfFew(t *testing.T) {
	few := func(n int, in op.Instr) func() class.File {
		return func() class.File {
			f := some()
			f.Face.Methods, f.Bodies = f.Face.Methods[:1], f.Bodies[:1]
			f.Face.Methods[0].Params = nil
			f.Nums, f.Classes, f.Types = f.Nums[:n], f.Classes[:n], f.Types[:n]
			f.Pool.Fields, f.Pool.Methods = f.Pool.Fields[:n], f.Pool.Methods[:n]
			f.Bodies[0] = class.Body{Locals: n, Code: []op.Instr{in}}
			return f
		}
	}
	for c := op.Int; c <= op.Zero; c++ {
		for _, n := range []int{0, 1} {
			there := map[rune]int{0: 1, 'j': 1, 'b': 2}
			for _, pool := range "nctfml" {
				there[pool] = n
			}
			for a := range 3 {
				in := op.Instr{Code: c, A: a}
				check(t, a < there[c.Pool()], few(n, in), in, "of", n)
			}
		}
	}
}
