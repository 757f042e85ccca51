package gen_test

import (
	"sort"
	"testing"

	"kiln/api"
	"kiln/ast"
	"kiln/chance"
	"kiln/class"
	"kiln/eval"
	"kiln/face"
	"kiln/gen"
	"kiln/hier"
	"kiln/op"
)

// machine runs files, to hold what comes of code against what classes mean. A trap is a panic; a word is an int64, a bool, a *thing, or nil; one of another type is another panic.
type machine struct {
	tab   *hier.Table
	files map[string]class.File
	left  eval.Bounds
	out   []int64
}

type thing struct {
	class  string
	fields map[string]any
	parts  []any
}

func stop(when bool, x api.Trap) {
	if when {
		panic(x)
	}
}

func zero(t ast.Type) any {
	switch t {
	case ast.Int():
		return int64(0)
	case ast.Bool():
		return false
	}
	return nil
}

func some(x any) *thing {
	stop(x == nil, api.Null)
	return x.(*thing)
}

func (m *machine) take(parts int64) {
	stop(parts >= int64(m.left.Parts), api.Heap)
	m.left.Parts -= int(parts) + 1
}

func (m *machine) made(name string) *thing {
	o := &thing{class: name, fields: map[string]any{}}
	above, _ := m.tab.Above(name)
	for _, x := range above {
		for _, v := range m.files[x].Face.Fields {
			o.fields[x+"."+v.Name] = zero(v.Type)
		}
	}
	m.take(int64(len(o.fields)))
	return o
}

func (m *machine) array(t ast.Type, n int64) *thing {
	stop(n < 0, api.Index)
	m.take(n)
	o := &thing{}
	for range n {
		o.parts = append(o.parts, zero(t.Elem()))
	}
	return o
}

// call is a method of the first class from one on that has it so.
func (m *machine) call(name string, s face.Sig, words []any) any {
	stop(m.left.Deep <= 0, api.Deep)
	m.left.Deep--
	defer func() { m.left.Deep++ }()
	above, _ := m.tab.Above(name)
	for _, x := range above {
		for i, own := range m.files[x].Face.Methods {
			if own.Same(s) {
				b := m.files[x].Bodies[i]
				locals := make([]any, b.Locals)
				copy(locals, words)
				return m.run(m.files[x].Pool, b, locals)
			}
		}
	}
	panic("no method " + s.Name)
}

// stack is words; none is taken that isn't there, and there are never more than the body says.
type stack struct {
	words []any
	most  int
}

func (s *stack) push(x any) {
	s.words = append(s.words, x)
	if len(s.words) > s.most {
		panic("too high")
	}
}

func (s *stack) take(n int) []any {
	words := append([]any{}, s.words[len(s.words)-n:]...)
	s.words = s.words[:len(s.words)-n]
	return words
}

func (s *stack) pop() any { return s.take(1)[0] }

func (m *machine) run(p class.Pool, b class.Body, locals []any) any {
	s := &stack{most: b.Stack}
	for at := 0; ; at++ {
		stop(m.left.Steps <= 0, api.Fuel)
		m.left.Steps--
		i := b.Code[at]
		switch i.Code {
		case op.Local:
			s.push(locals[i.A])
		case op.Store:
			locals[i.A] = s.pop()
		case op.Jump:
			at = i.A - 1
		case op.Unless:
			if !s.pop().(bool) {
				at = i.A - 1
			}
		case op.Return:
			return s.pop()
		case op.Print:
			m.out = append(m.out, s.pop().(int64))
		case op.Pop:
			s.pop()
		case op.Call:
			x := p.Methods[i.A]
			words := s.take(len(x.Params) + 1)
			s.push(m.call(some(words[0]).class, x.Sig, words))
		case op.Static:
			x := p.Methods[i.A]
			s.push(m.call(x.Class, x.Sig, s.take(len(x.Params))))
		default:
			m.object(p, i, s)
		}
	}
}

func (m *machine) object(p class.Pool, i op.Instr, s *stack) {
	switch i.Code {
	case op.Null:
		s.push(nil)
	case op.Get:
		s.push(some(s.pop()).fields[p.Fields[i.A].Class+"."+p.Fields[i.A].Name])
	case op.Put:
		w := s.take(2)
		some(w[0]).fields[p.Fields[i.A].Class+"."+p.Fields[i.A].Name] = w[1]
	case op.New:
		s.push(m.made(p.Classes[i.A]))
	case op.Array:
		s.push(m.array(p.Types[i.A], s.pop().(int64)))
	case op.Load, op.Save:
		w := s.take(int(2 + i.Code - op.Load))
		o, at := some(w[0]), w[1].(int64)
		stop(at < 0 || at >= int64(len(o.parts)), api.Index)
		if i.Code == op.Load {
			s.push(o.parts[at])
		} else {
			o.parts[at] = w[2]
		}
	case op.Length:
		s.push(int64(len(some(s.pop()).parts)))
	case op.Cast:
		x := s.pop()
		stop(x != nil && !m.below(x, p.Classes[i.A]), api.Cast)
		s.push(x)
	case op.Is:
		s.push(m.below(s.pop(), p.Classes[i.A]))
	default:
		number(p, i, s)
	}
}

func (m *machine) below(x any, name string) bool {
	return x != nil && m.tab.Below(x.(*thing).class, name)
}

func number(p class.Pool, i op.Instr, s *stack) {
	switch i.Code {
	case op.Int:
		s.push(p.Nums[i.A])
		return
	case op.Zero:
		s.push(i.A == 1)
		return
	case op.Neg:
		s.push(-s.pop().(int64))
		return
	case op.Not:
		s.push(!s.pop().(bool))
		return
	case op.Same, op.Other:
		w := s.take(2)
		s.push(w[0] == w[1])
		return
	}
	b, a := s.pop().(int64), s.pop().(int64)
	switch i.Code {
	case op.Add:
		s.push(a + b)
	case op.Sub:
		s.push(a - b)
	case op.Mul:
		s.push(a * b)
	case op.Less:
		s.push(a < b)
	case op.Most:
		s.push(a <= b)
	case op.Div:
		stop(b == 0, api.Zero)
		s.push(a / b)
	case op.Mod:
		stop(b == 0, api.Zero)
		s.push(a % b)
	default:
		panic("no code")
	}
}

// machineRun is what comes of a static method of ints.
func machineRun(p program, name, method string, args []int64, b eval.Bounds) (r eval.Result) {
	m := &machine{tab: p.tab, files: map[string]class.File{}, left: b}
	for _, c := range p.list {
		m.files[c.Name], _ = gen.Class(p.tab, c)
	}
	defer func() {
		r.Out = m.out
		if x := recover(); x != nil {
			r.Trap = x.(api.Trap)
		}
	}()
	owner, s, _ := p.tab.Method(name, method, true)
	var words []any
	for _, n := range args {
		words = append(words, n)
	}
	r.Num = m.call(owner, s, words).(int64)
	return r
}

// wants tells whether a program ended for want of something.
func wants(x api.Trap) bool { return x == api.Fuel || x == api.Heap || x == api.Deep }

// P3: the code of right classes ends as they mean, and in so many steps.
func TestCodeIsWhatClassesMean(t *testing.T) {
	seeds := uint64(600)
	if testing.Short() {
		seeds = 100
	}
	ends := map[api.Trap]int{}
	for seed := range seeds {
		p := checked(t, parsed(t, chance.Texts(seed)...)...)
		for _, args := range [][]int64{{0, 1}, {3, -2}, {7, 1 << 40}} {
			b := eval.Bounds{Steps: 5000, Parts: 3000, Deep: 40}
			want, e := eval.Run(p.tab, p.list, "Main", "go", args, b)
			if e != api.OK {
				t.Fatal(seed, e)
			}
			ends[want.Trap]++
			if wants(want.Trap) {
				continue
			}
			least := sort.Search(b.Steps, func(n int) bool {
				r, _ := eval.Run(p.tab, p.list, "Main", "go", args, eval.Bounds{Steps: n, Parts: b.Parts, Deep: b.Deep})
				return r.Trap != api.Fuel
			})
			b.Steps = 4*least + 8
			if got := machineRun(p, "Main", "go", args, b); !got.Same(want) {
				t.Fatal(seed, args, got, want)
			}
		}
	}
	for _, x := range []api.Trap{api.NoTrap, api.Null, api.Index, api.Zero, api.Cast} {
		if ends[x] < 3 {
			t.Error("trap", x, ends[x])
		}
	}
}
