package vm_test

import (
	"math/rand"
	"testing"

	"kiln/api"
	"kiln/ast"
	"kiln/chance"
	"kiln/class"
	"kiln/eval"
	"kiln/face"
	"kiln/link"
	"kiln/op"
	"kiln/verify"
	"kiln/vm"
)

// model runs files as plainly as the document tells it, and asks of each word whether it is there and of what type it is: a word is an int64, a bool, a *thing or nil, and one of another type than is asked for is a panic. So is a trap.
type model struct {
	*link.Image
	eval.Bounds
	out []int64
}

// thing is an object of a class, or an array of parts of a type.
type thing struct {
	of     ast.Type
	fields map[string]any
	parts  []any
}

// unset is a local that nothing was put in.
type unset struct{}

func stop(when bool, x api.Trap) {
	if when {
		panic(x)
	}
}

func must(ok bool, why string) {
	if !ok {
		panic(why)
	}
}

func first(t ast.Type) any {
	switch t {
	case ast.Int():
		return int64(0)
	case ast.Bool():
		return false
	}
	return nil
}

// has tells whether a word is of a type, or of one that fits where it is wanted.
func (m *model) has(w any, t ast.Type) bool {
	switch w := w.(type) {
	case int64:
		return t == ast.Int()
	case bool:
		return t == ast.Bool()
	case *thing:
		return m.Fits(w.of, t)
	}
	return w == nil && t.Object()
}

// stack is the words of one call.
type stack struct {
	*model
	words []any
	most  int
}

func (s *stack) push(w any) {
	s.words = append(s.words, w)
	must(len(s.words) <= s.most, "too high")
}

func (s *stack) pop() any {
	must(len(s.words) > 0, "no word")
	w := s.words[len(s.words)-1]
	s.words = s.words[:len(s.words)-1]
	return w
}

// take is the last word, of a type.
func (s *stack) take(t ast.Type) any {
	w := s.pop()
	must(s.has(w, t), "another type")
	return w
}

func (s *stack) num() int64 { return s.take(ast.Int()).(int64) }

func (s *stack) yes() bool { return s.take(ast.Bool()).(bool) }

// some is a thing of a type, or the trap.
func (s *stack) some(t ast.Type) *thing {
	w := s.take(t)
	stop(w == nil, api.Null)
	return w.(*thing)
}

func (m *model) room(parts int64) {
	stop(parts >= int64(m.Parts), api.Heap)
	m.Parts -= int(parts) + 1
}

func (m *model) fresh(name string) *thing {
	o := &thing{of: ast.Of(name), fields: map[string]any{}}
	above, _ := m.Above(name)
	for _, x := range above {
		f, _ := m.Face(x)
		for _, v := range f.Fields {
			o.fields[v.Name] = first(v.Type)
		}
	}
	m.room(int64(len(o.fields)))
	return o
}

func (m *model) call(name string, s face.Sig, words []any) any {
	stop(m.Deep <= 0, api.Deep)
	m.Deep--
	owner, there := m.Find(class.Method{Class: name, Sig: s})
	must(there, "no method")
	f, _ := m.File(owner)
	b, _ := m.Body(owner, s.Name)
	locals := make([]any, b.Locals)
	for i := range locals {
		if locals[i] = (unset{}); i < len(words) {
			locals[i] = words[i]
		}
	}
	w := m.run(f.Pool, b, s.Ret, locals)
	m.Deep++
	return w
}

func (m *model) run(p class.Pool, b class.Body, ret ast.Type, locals []any) any {
	s := &stack{model: m, most: b.Stack}
	for at := 0; ; at++ {
		must(at < len(b.Code), "beyond the end")
		stop(m.Steps <= 0, api.Fuel)
		m.Steps--
		switch i := b.Code[at]; i.Code {
		case op.Local:
			must(locals[i.A] != unset{}, "unset")
			s.push(locals[i.A])
		case op.Store:
			locals[i.A] = s.pop()
		case op.Jump:
			at = i.A - 1
		case op.Unless:
			if !s.yes() {
				at = i.A - 1
			}
		case op.Return:
			return s.take(ret)
		case op.Print:
			m.out = append(m.out, s.num())
		case op.Pop:
			s.pop()
		case op.Call, op.Static:
			s.call(p.Methods[i.A], i.Code == op.Static)
		case op.Array, op.Load, op.Save, op.Length:
			s.array(p, i)
		case op.Get, op.Put, op.New, op.Cast, op.Is, op.Other, op.Null:
			s.object(p, i)
		default:
			s.number(p, i)
		}
	}
}

func (s *stack) call(x class.Method, static bool) {
	must(x.Static == static, "not static, or static")
	words := make([]any, len(x.Params)+1)
	for i := len(x.Params); i > 0; i-- {
		words[i] = s.take(x.Params[i-1])
	}
	if static {
		s.push(s.model.call(x.Class, x.Sig, words[1:]))
		return
	}
	o := s.some(ast.Of(x.Class))
	words[0] = o
	s.push(s.model.call(o.of.Name, x.Sig, words))
}

func (s *stack) array(p class.Pool, i op.Instr) {
	if i.Code == op.Length {
		w := s.pop()
		stop(w == nil, api.Null)
		must(w.(*thing).of.Array, "no array")
		s.push(int64(len(w.(*thing).parts)))
		return
	}
	t := p.Types[i.A]
	must(t.Array, "no array")
	if i.Code == op.Array {
		n := s.num()
		stop(n < 0, api.Index)
		s.room(n)
		o := &thing{of: t}
		for range n {
			o.parts = append(o.parts, first(t.Elem()))
		}
		s.push(o)
		return
	}
	var w any
	if i.Code == op.Save {
		w = s.take(t.Elem())
	}
	at := s.num()
	o := s.some(t)
	stop(at < 0 || at >= int64(len(o.parts)), api.Index)
	if i.Code == op.Save {
		o.parts[at] = w
	} else {
		s.push(o.parts[at])
	}
}

func (s *stack) object(p class.Pool, i op.Instr) {
	switch i.Code {
	case op.Null:
		s.push(nil)
	case op.New:
		s.push(s.fresh(p.Classes[i.A]))
	case op.Get:
		s.push(s.some(ast.Of(p.Fields[i.A].Class)).fields[p.Fields[i.A].Name])
	case op.Put:
		w := s.take(p.Fields[i.A].Type)
		s.some(ast.Of(p.Fields[i.A].Class)).fields[p.Fields[i.A].Name] = w
	case op.Other:
		b, a := s.pop(), s.pop()
		_, one := a.(*thing)
		_, two := b.(*thing)
		must((one || a == nil) && (two || b == nil), "no objects")
		s.push(a == b)
	case op.Cast, op.Is:
		w := s.pop()
		o, is := w.(*thing)
		must(w == nil || is && !o.of.Array, "no object")
		is = is && s.Below(o.of.Name, p.Classes[i.A])
		if i.Code == op.Is {
			s.push(is)
			return
		}
		stop(w != nil && !is, api.Cast)
		s.push(w)
	}
}

func (s *stack) number(p class.Pool, i op.Instr) {
	switch i.Code {
	case op.Int:
		s.push(p.Nums[i.A])
		return
	case op.Zero:
		s.push(i.A == 1)
		return
	case op.Neg:
		s.push(-s.num())
		return
	case op.Not:
		s.push(!s.yes())
		return
	case op.Same:
		b, a := s.pop(), s.pop()
		_, num := a.(int64)
		must(s.has(b, map[bool]ast.Type{true: ast.Int(), false: ast.Bool()}[num]) && a != nil, "no numbers")
		s.push(a == b)
		return
	}
	b, a := s.num(), s.num()
	switch i.Code {
	case op.Add:
		s.push(a + b)
	case op.Sub:
		s.push(a - b)
	case op.Mul:
		s.push(a * b)
	case op.Div:
		stop(b == 0, api.Zero)
		s.push(a / b)
	case op.Mod:
		stop(b == 0, api.Zero)
		s.push(a % b)
	case op.Less:
		s.push(a < b)
	case op.Most:
		s.push(a <= b)
	}
}

// modelRun is what comes of a static method of ints; a panic that is no trap goes on.
func modelRun(img *link.Image, name, method string, args []int64, b eval.Bounds) (r eval.Result) {
	m := &model{Image: img, Bounds: b}
	defer func() {
		r.Out = m.out
		if x := recover(); x != nil {
			r.Trap = x.(api.Trap)
		}
	}()
	_, s, _ := img.Method(name, method, true)
	var words []any
	for _, n := range args {
		words = append(words, n)
	}
	r.Num = m.call(name, s, words).(int64)
	return r
}

// files are an image's files.
func files(m *link.Image) []class.File {
	var list []class.File
	for _, name := range m.Names() {
		f, _ := m.File(name)
		list = append(list, f)
	}
	return list
}

// held holds what runs of an image without faults against the model: all static methods that take ints and return one.
func held(t testing.TB, m *link.Image, ends map[api.Trap]int) {
	t.Helper()
	for _, f := range files(m) {
		for _, s := range f.Face.Methods {
			for _, n := range []int64{0, 3} {
				args := []int64{n, 2, 1}[:min(3, len(s.Params))]
				b := eval.Bounds{Steps: 1500, Parts: 800, Deep: 20}
				got, e := vm.Run(m, f.Name, s.Name, args, b)
				if e == api.ErrNone || e == api.ErrType {
					continue
				}
				if e != api.OK {
					t.Fatal(f.Name, s.Name, "is stuck:", e)
				}
				ends[got.Trap]++
				if want := modelRun(m, f.Name, s.Name, args, b); !got.Same(want) {
					t.Fatal(f.Name, s.Name, args, got, want)
				}
			}
		}
	}
}

// P15.4, P16.1, P16.2: code that is turned bit by bit, as long as it has no fault, is never stuck, finds no word of another type, and comes to what the document says.
func TestTurned(t *testing.T) {
	ends := map[api.Trap]int{}
	for seed := range seeds() / 4 {
		list := chance.Files(seed)
		for i := range uint64(200) {
			next := chance.Turned(seed<<32+i, list)
			m, e := link.Link(next...)
			if e != api.OK {
				t.Fatal(seed, i, e)
			}
			if verify.Check(m).E != api.OK {
				// What comes of it isn't said, but it ends, and doesn't panic.
				vm.Run(m, "Main", "go", []int64{3, 2}, eval.Bounds{Steps: 300, Parts: 300, Deep: 5})
				continue
			}
			list = next
			if i%10 == 0 {
				held(t, m, ends)
			}
		}
	}
	for x := api.NoTrap; x <= api.Deep; x++ {
		if ends[x] < 3 {
			t.Error("trap", x, ends[x])
		}
	}
}

// P4: bytes that are turned are refused, or they are files; these are refused, or fit together; what has no fault is never stuck.
func TestTurnedBytes(t *testing.T) {
	r := rand.New(rand.NewSource(4))
	ends, came := map[api.Trap]int{}, map[api.Errno]int{}
	for seed := range seeds() / 4 {
		kept, e := class.Archive(chance.Files(seed)...)
		if e != api.OK {
			t.Fatal(seed, e)
		}
		for range 300 {
			turned := []byte(kept)
			for range 1 + r.Intn(3) {
				turned[r.Intn(len(turned))] += byte(1 + r.Intn(255))
			}
			list, e := class.Unpack(string(turned))
			if came[e]++; e != api.OK {
				continue
			}
			m, e := link.Link(list...)
			if came[e]++; e != api.OK {
				continue
			}
			f := verify.Check(m)
			if came[f.E]++; f.E == api.OK {
				held(t, m, ends)
			}
		}
	}
	for _, e := range []api.Errno{api.OK, api.ErrForm, api.ErrLink, api.ErrCode} {
		if came[e] == 0 {
			t.Error("never", e, came)
		}
	}
}
