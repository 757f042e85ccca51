package verify_test

import (
	"slices"
	"strconv"
	"strings"
	"testing"

	"kiln/api"
	"kiln/ast"
	"kiln/class"
	"kiln/face"
	"kiln/op"
	"kiln/verify"
)

// together is what two types have in common, told one by one; none: no text.
func together(a, b string) string {
	if a == b {
		return a
	}
	for range 2 {
		if a == "null" && b != "int" && b != "bool" {
			return b
		}
		a, b = b, a
	}
	switch both := a + " " + b; both {
	case "B D", "D B":
		return "B"
	case "A B", "B A", "A C", "C A", "A D", "D A", "B C", "C B", "C D", "D C":
		return "A"
	}
	return ""
}

// P15.1: words that two ways bring: of the type that both have in common, or a fault where they come together.
func TestWordsComeTogether(t *testing.T) {
	choices(2, func(list []string) {
		both := together(list[0], list[1])
		for _, beneath := range []string{"", laid("E")} {
			text := beneath + "bool 1; unless L; " + laid(list[0]) + "jump M; L: " + laid(list[1]) + "M: "
			at := strings.Count(text, ";")
			if both == "" {
				wrong(t, text+"pop; int 0; return", at)
				continue
			}
			is(t, text+"store"+u+"; local"+u+"; ", both)
			if beneath != "" {
				is(t, text+"pop; ", "E")
			}
		}
		// Also beneath words that are the same.
		text := "bool 1; unless L; " + laid(list[0]) + "int 0; jump M; L: " + laid(list[1]) + "int 0; M: "
		if both == "" {
			wrong(t, text+"pop; int 0; return", 7)
		} else {
			is(t, text+"print; ", both)
		}
	})
}

// P15.1: locals that two ways bring: of the type that both have in common, or unknown.
func TestLocalsComeTogether(t *testing.T) {
	choices(2, func(list []string) {
		both := together(list[0], list[1])
		text := "bool 1; unless L; " + laid(list[0]) + "store" + u + "; jump M; L: " + laid(list[1]) + "store" + u + "; M: local" + u + "; "
		if both == "" {
			wrong(t, text+"pop; int 0; return", 7)
			right(t, strings.Replace(text, "M: local"+u, "M: null", 1)+"pop; int 0; return")
		} else {
			is(t, text, both)
		}
	})
	for _, s := range words() {
		// One way knows it, and the other one doesn't.
		wrong(t, "bool 1; unless L; "+laid(s)+"store"+u+"; L: local"+u+"; pop; int 0; return", 4)
		wrong(t, "bool 1; unless L; jump M; L: "+laid(s)+"store"+u+"; M: local"+u+"; pop; int 0; return", 5)
		right(t, "bool 1; unless L; "+laid(s)+"store"+u+"; L: "+laid(s)+"store"+u+"; local"+u+"; pop; int 0; return")
	}
}

// P15.1: three ways, in all orders.
func TestThreeComeTogether(t *testing.T) {
	choices(3, func(list []string) {
		if testing.Short() && list[0] > list[1] {
			return
		}
		both := ""
		if two := together(list[0], list[1]); two != "" {
			both = together(two, list[2])
		}
		text := "bool 1; unless L; " + laid(list[0]) + "jump M; L: bool 1; unless K; " + laid(list[1]) + "jump M; K: " + laid(list[2]) + "M: "
		switch both {
		case "":
			wrong(t, text+"pop; int 0; return", 9)
		case "null":
			right(t, text+"get E.e; pop; int 0; return")
		default:
			right(t, text+"static P.p"+local(both)+"; return")
		}
	})
}

// P15.1: a way back: what was known at first isn't any more.
func TestWaysBack(t *testing.T) {
	choices(2, func(list []string) {
		both := together(list[0], list[1])
		words := laid(list[0]) + "L: pop; " + laid(list[1]) + "bool 1; unless L; "
		if both == "" {
			wrong(t, words+"pop; int 0; return", 1)
		} else {
			right(t, words+"pop; int 0; return")
		}
		locals := laid(list[0]) + "store" + u + "; L: local" + u + "; pop; " + laid(list[1]) + "store" + u + "; bool 1; unless L; int 0; return"
		if both == "" {
			wrong(t, locals, 2)
		} else {
			right(t, locals)
		}
	})
	// The type that comes back doesn't fit what asks for the first one.
	wrong(t, "local "+local("D")+"; store"+u+"; L: local"+u+"; call D.list; pop; local "+local("B")+"; store"+u+"; jump L", 3)
	wrong(t, "null; store"+u+"; L: local"+u+"; get E.e; pop; local "+local("A")+"; store"+u+"; jump L", 3)
	right(t, "null; store"+u+"; L: local"+u+"; get E.e; store"+u+"; jump L")
	// A local that isn't asked for any more may be whatever it likes.
	right(t, "int 0; store"+u+"; local"+u+"; pop; L: bool 1; store"+u+"; jump L")
	// Round after round one local more is turned.
	wrong(t, "null; store"+u+"; null; store"+v+"; L: local"+v+"; get A.n; pop; local"+u+"; store"+v+"; local "+local("E")+"; store"+u+"; jump L", 5)
}

// P15.1: ways that come together must have stacks as high.
func TestHeights(t *testing.T) {
	for a := range 4 {
		for b := range 4 {
			text := "bool 1; unless L; " + strings.Repeat("null; ", a) + "jump M; L: " + strings.Repeat("null; ", b) + "M: "
			at := -1
			if a != b {
				at = a + b + 3
			}
			plain().holds(t, text+"int 0; return", at)
			// A way back.
			text = strings.Repeat("null; ", a) + "L: " + strings.Repeat("pop; ", a) + strings.Repeat("null; ", b) + "bool 1; unless L; int 0; return"
			if a != b {
				at = a
			}
			plain().holds(t, text, at)
		}
	}
	right(t, "bool 0; unless L; L: int 0; return")
	right(t, "L: bool 0; unless L; jump L")
	wrong(t, "L: null; jump L", 0)
	wrong(t, "null; L: pop; jump L", 1)
}

// spread is an image of T alone, which has one static method with that code.
func spread(t testing.TB, locals, stack int, more class.Pool, code []op.Instr, faces ...face.Face) verify.Fault {
	t.Helper()
	f := class.File{Face: face.Face{Name: "T", Methods: []face.Sig{{Name: "go", Static: true, Ret: ast.Int()}}}, Pool: more}
	f.Bodies = []class.Body{{Locals: locals, Stack: stack, Code: code}}
	list := []class.File{f}
	for _, x := range faces {
		list = append(list, class.File{Face: x})
	}
	return verify.Check(linked(t, list...))
}

func fault(at int) verify.Fault {
	return verify.Fault{E: api.ErrCode, Class: "T", Method: "go", At: at}
}

func many(n int, i ...op.Instr) []op.Instr { return slices.Repeat(i, n) }

// P15.2: as much of all as a file may have.
func TestLimits(t *testing.T) {
	null, pop, end := op.Instr{Code: op.Null}, op.Instr{Code: op.Pop}, op.Instr{Code: op.Jump}
	end.A = api.MaxCode - 1
	for _, c := range []struct {
		stack, high int
		want        verify.Fault
	}{{api.MaxStack, api.MaxStack, verify.Fault{}}, {api.MaxStack, api.MaxStack + 1, fault(api.MaxStack)}, {api.MaxStack - 1, api.MaxStack, fault(api.MaxStack - 1)}} {
		code := append(many(c.high, null), many(c.high, pop)...)
		code = append(code, many((api.MaxCode-len(code)-1)/2, null, pop)...)
		for len(code) < api.MaxCode {
			code = append(code, op.Instr{Code: op.Jump, A: len(code)})
		}
		if f := spread(t, 0, c.stack, class.Pool{}, code); f != c.want {
			t.Error(c, f)
		}
	}
	// Nothing is known of any local, then all of them are null.
	const most = 401
	var code []op.Instr
	for i := range most {
		code = append(code, null, op.Instr{Code: op.Store, A: i})
	}
	for i := range most {
		code = append(code, op.Instr{Code: op.Local, A: i}, pop)
	}
	code = append(code, op.Instr{Code: op.Jump})
	if f := spread(t, most, 1, class.Pool{}, code); f != (verify.Fault{}) {
		t.Error(f)
	}
	code[2*most-1].A = 0
	if f := spread(t, most, 1, class.Pool{}, code); f != fault(4*most-2) {
		t.Error(f)
	}
}

// Rule 1: Check ends, and soon, where what is known turns often: locals that move on by one in each round, through classes each above the other, with ways back from everywhere.
func TestEnds(t *testing.T) {
	const deep, most = 199, 401
	var faces []face.Face
	var p class.Pool
	for i := range deep {
		x := face.Face{Name: "C" + strconv.Itoa(i)}
		if i > 0 {
			x.Super = "C" + strconv.Itoa(i-1)
		}
		faces = append(faces, x)
		p.Classes = append(p.Classes, x.Name)
	}
	var code []op.Instr
	for i := range most {
		code = append(code, op.Instr{Code: op.Null}, op.Instr{Code: op.Store, A: i})
	}
	first := len(code)
	for i := range most - 1 {
		code = append(code, op.Instr{Code: op.Local, A: i + 1}, op.Instr{Code: op.Store, A: i})
	}
	for i := range deep {
		code = append(code, op.Instr{Code: op.New, A: deep - 1 - i}, op.Instr{Code: op.Store, A: most - 1})
		code = append(code, op.Instr{Code: op.Zero}, op.Instr{Code: op.Unless, A: first})
	}
	for len(code) < api.MaxCode-2 {
		code = append(code, op.Instr{Code: op.Zero}, op.Instr{Code: op.Unless, A: len(code) + 2})
	}
	code = append(code, op.Instr{Code: op.Jump, A: first})
	if f := spread(t, most, 1, p, code, faces...); f != (verify.Fault{}) {
		t.Error(f)
	}
}
