package verify_test

import (
	"math/rand"
	"slices"
	"strings"
	"testing"

	"kiln/api"
	"kiln/ast"
	"kiln/chance"
	"kiln/class"
	"kiln/hier"
	"kiln/link"
	"kiln/op"
	"kiln/verify"
)

// model is a method told as plainly as the document does: what is known ahead of each instruction is gone over and over again, in any order, till nothing turns.
type model struct {
	*hier.Table
	class.Pool
	class.Body
	ret    ast.Type
	ahead  []*known
	faults map[int]bool
}

// known is the locals and the words; the zero type is that of what is unknown.
type known struct {
	locals []ast.Type
	words  []ast.Type
}

func modelOf(m *link.Image, f class.File, i int) *model {
	x := &model{Table: m.Table, Pool: f.Pool, Body: f.Bodies[i], ret: f.Face.Methods[i].Ret, faults: map[int]bool{}}
	x.ahead = make([]*known, len(x.Code))
	first := &known{}
	if !f.Face.Methods[i].Static {
		first.locals = append(first.locals, ast.Of(f.Name))
	}
	first.locals = append(first.locals, f.Face.Methods[i].Params...)
	for len(first.locals) < x.Locals {
		first.locals = append(first.locals, ast.Type{})
	}
	x.ahead[0] = first
	return x
}

// run goes on till nothing turns; without a source of chance from the beginning to the end each time.
func (x *model) run(r *rand.Rand) {
	for turned := true; turned; {
		turned = false
		order := make([]int, len(x.Code))
		for i := range order {
			order[i] = i
		}
		if r != nil {
			r.Shuffle(len(order), func(i, j int) { order[i], order[j] = order[j], order[i] })
		}
		for _, at := range order {
			if x.ahead[at] == nil {
				continue
			}
			after, ok := x.after(x.Code[at], *x.ahead[at])
			next := x.next(at)
			if !ok || slices.Contains(next, len(x.Code)) {
				x.faults[at] = true
				continue
			}
			for _, to := range next {
				turned = x.come(to, after) || turned
			}
		}
	}
}

func (x *model) next(at int) []int {
	switch i := x.Code[at]; i.Code {
	case op.Jump:
		return []int{i.A}
	case op.Unless:
		return []int{i.A, at + 1}
	case op.Return:
		return nil
	}
	return []int{at + 1}
}

func (x *model) come(to int, k known) bool {
	old := x.ahead[to]
	if old == nil {
		x.ahead[to] = &known{slices.Clone(k.locals), slices.Clone(k.words)}
		return true
	}
	if len(old.words) != len(k.words) {
		x.faults[to] = true
		return false
	}
	turned := false
	for i, t := range k.locals {
		if both := x.both(old.locals[i], t); both != old.locals[i] {
			old.locals[i], turned = both, true
		}
	}
	for i, t := range k.words {
		both := x.both(old.words[i], t)
		if both == (ast.Type{}) {
			x.faults[to] = true
		} else if both != old.words[i] {
			old.words[i], turned = both, true
		}
	}
	return turned
}

func (x *model) both(a, b ast.Type) ast.Type {
	if a == b {
		return a
	}
	if a == ast.Nothing() && (b.Array || b.Class()) {
		return b
	}
	if b == ast.Nothing() && (a.Array || a.Class()) {
		return a
	}
	if a.Class() && b.Class() {
		return ast.Of(x.Common(a.Name, b.Name))
	}
	return ast.Type{}
}

// does is what an instruction takes, and lays behind a colon; * is any word.
func (x *model) does(i op.Instr) string {
	text := func(list ...ast.Type) string {
		s := ""
		for _, t := range list {
			s += t.Text() + " "
		}
		return s
	}
	switch i.Code {
	case op.Int:
		return ": int"
	case op.Zero:
		return ": bool"
	case op.Null:
		return ": null"
	case op.Add, op.Sub, op.Mul, op.Div, op.Mod:
		return "int int : int"
	case op.Less, op.Most:
		return "int int : bool"
	case op.Same, op.Other:
		return "* * : bool"
	case op.Neg:
		return "int : int"
	case op.Not:
		return "bool : bool"
	case op.Get:
		return x.Fields[i.A].Class + " : " + x.Fields[i.A].Type.Text()
	case op.Put:
		return x.Fields[i.A].Class + " " + x.Fields[i.A].Type.Text() + " :"
	case op.New:
		return ": " + x.Classes[i.A]
	case op.Array:
		return "int : " + x.Types[i.A].Text()
	case op.Load:
		return x.Types[i.A].Text() + " int : " + x.Types[i.A].Elem().Text()
	case op.Save:
		return x.Types[i.A].Text() + " int " + x.Types[i.A].Elem().Text() + " :"
	case op.Length:
		return "* : int"
	case op.Cast:
		return "* : " + x.Classes[i.A]
	case op.Is:
		return "* : bool"
	case op.Call:
		return x.Methods[i.A].Class + " " + text(x.Methods[i.A].Params...) + ": " + x.Methods[i.A].Ret.Text()
	case op.Static:
		return text(x.Methods[i.A].Params...) + ": " + x.Methods[i.A].Ret.Text()
	case op.Unless:
		return "bool :"
	case op.Return:
		return x.ret.Text() + " :"
	case op.Print:
		return "int :"
	case op.Store, op.Pop:
		return "* :"
	}
	return ":"
}

// asks tells whether there is more that an instruction asks for than what it takes.
func (x *model) asks(i op.Instr, w []ast.Type) bool {
	switch i.Code {
	case op.Same:
		return w[0] == w[1] && !w[0].Object()
	case op.Other:
		return w[0].Object() && w[1].Object()
	case op.Array, op.Load, op.Save:
		return x.Types[i.A].Array
	case op.Length:
		return w[0].Array || w[0] == ast.Nothing()
	case op.Cast, op.Is:
		return w[0].Class() || w[0] == ast.Nothing()
	case op.Call:
		return !x.Methods[i.A].Static
	case op.Static:
		return x.Methods[i.A].Static
	}
	return true
}

func (x *model) after(i op.Instr, k known) (known, bool) {
	took, lays, _ := strings.Cut(x.does(i), ":")
	wants := strings.Fields(took)
	rest := len(k.words) - len(wants)
	if rest < 0 {
		return k, false
	}
	words := k.words[rest:]
	for n, want := range wants {
		if want != "*" && !x.Fits(words[n], typeOf(want)) {
			return k, false
		}
	}
	if !x.asks(i, words) {
		return k, false
	}
	k = known{slices.Clone(k.locals), slices.Clone(k.words[:rest])}
	if i.Code == op.Store {
		k.locals[i.A] = words[0]
	}
	if i.Code == op.Local {
		k.words = append(k.words, k.locals[i.A])
		return k, k.locals[i.A] != ast.Type{} && len(k.words) <= x.Stack
	}
	for _, s := range strings.Fields(lays) {
		k.words = append(k.words, typeOf(s))
		return k, len(k.words) <= x.Stack
	}
	return k, true
}

// tells whether there is a fault there; if no jump stands ahead of the first one it must be that.
func (x *model) tells(at int) bool {
	first := len(x.Code)
	for i := range x.faults {
		first = min(first, i)
	}
	jump := slices.ContainsFunc(x.Code[:first], func(i op.Instr) bool { return i.Code.Pool() == 'j' })
	return x.faults[at] && (jump || at == first)
}

// against holds what Check tells of an image against the model of some of its classes; the others have no fault.
func against(t testing.TB, r *rand.Rand, m *link.Image, names ...string) verify.Fault {
	t.Helper()
	got := verify.Check(m)
	for _, name := range names {
		f, _ := m.File(name)
		for i, s := range f.Face.Methods {
			any, rising := modelOf(m, f, i), modelOf(m, f, i)
			any.run(r)
			rising.run(nil)
			if (len(any.faults) == 0) != (len(rising.faults) == 0) {
				t.Fatalf("%v and %v in %v", any.faults, rising.faults, any.Code)
			}
			if len(any.faults) == 0 {
				continue
			}
			if got.E != api.ErrCode || got.Class != name || got.Method != s.Name || !any.tells(got.At) && !rising.tells(got.At) {
				t.Fatalf("%+v, not %s.%s %v or %v in %v", got, name, s.Name, any.faults, rising.faults, any.Code)
			}
			return got
		}
	}
	if got != (verify.Fault{}) {
		t.Fatalf("%+v, but there is none", got)
	}
	return got
}

// unlike are the names of the files that have other code than those that were there.
func unlike(was, are []class.File) []string {
	var names []string
	for i, f := range are {
		if !slices.EqualFunc(f.Bodies, was[i].Bodies, func(a, b class.Body) bool {
			return a.Locals == b.Locals && a.Stack == b.Stack && slices.Equal(a.Code, b.Code)
		}) {
			names = append(names, f.Name)
		}
	}
	return names
}

func seeds() uint64 {
	if testing.Short() {
		return 60
	}
	return 300
}

// P15.4: what layer 13 makes has no fault, in any order of the files.
func TestCompiled(t *testing.T) {
	r := rand.New(rand.NewSource(15))
	for seed := range seeds() {
		list := chance.Files(seed)
		for range 3 {
			m := linked(t, list...)
			if f := against(t, r, m, m.Names()...); f.E != api.OK {
				t.Fatal(seed, f)
			}
			r.Shuffle(len(list), func(i, j int) { list[i], list[j] = list[j], list[i] })
		}
	}
}

// P15.1 to P15.3: code that is turned bit by bit, as long as it has no fault, against the model.
func TestTurned(t *testing.T) {
	r := rand.New(rand.NewSource(16))
	came := map[api.Errno]int{}
	at := map[op.Code]int{}
	for seed := range seeds() {
		list := chance.Files(seed)
		for i := range uint64(80) {
			next := chance.Turned(seed<<32+i, list)
			m, e := link.Link(next...)
			if e != api.OK {
				t.Fatal(seed, i, e)
			}
			f := against(t, r, m, unlike(list, next)...)
			came[f.E]++
			if f.E == api.OK {
				list = next
				continue
			}
			x, _ := m.File(f.Class)
			b, _ := m.Body(x.Name, f.Method)
			at[b.Code[f.At].Code]++
		}
	}
	if came[api.OK] < 1000 || came[api.ErrCode] < 1000 {
		t.Error(came)
	}
	for c := op.Int; c <= op.Zero; c++ {
		// A jump is at fault only where ways come together.
		if c != op.Jump && at[c] == 0 {
			t.Error("never a fault at", c.Name())
		}
	}
}
