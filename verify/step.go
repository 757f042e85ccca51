package verify

import (
	"kiln/ast"
	"kiln/op"
)

// none is the slot of an instruction that puts nothing anywhere.
const none = -1

// step is what an instruction does: to the slots that are known ahead of it, of which some are left, and one is laid behind these, or put among them.
type step struct {
	*code
	place
	rest  int
	slot  int
	laid  kind
	wrong bool // whether it may go wrong: the others count for nothing then
}

// high is how many slots there are behind the instruction.
func (s step) high() int { return max(s.rest, s.slot+1) }

// behind is what is known of them.
func (s step) behind() []kind {
	slots := make([]kind, s.high())
	copy(slots, s.slots[:s.rest])
	if s.slot != none {
		slots[s.slot] = s.laid
	}
	return slots
}

func (s *step) must(right bool) { s.wrong = s.wrong || !right }

// pop takes a word off; an unknown one, if there is none.
func (s *step) pop() ast.Type { return s.types[s.top()] }

func (s *step) top() kind {
	if s.rest == s.Locals {
		s.must(false)
		return unknown
	}
	s.rest--
	return s.slots[s.rest]
}

// take takes words off that fit these types, the last one first, for it is on top.
func (s *step) take(list ...ast.Type) {
	for i := len(list) - 1; i >= 0; i-- {
		s.must(s.fits(s.top(), s.of(list[i])))
	}
}

func (s *step) lay(t ast.Type) {
	s.must(s.rest < s.Locals+s.Stack)
	s.slot, s.laid = s.rest, s.of(t)
}

func (s *step) do(i op.Instr) {
	switch i.Code {
	case op.Local:
		s.must(s.slots[i.A] != unknown)
		s.lay(s.types[s.slots[i.A]])
	case op.Store:
		s.slot, s.laid = i.A, s.top()
	case op.Unless:
		s.take(ast.Bool())
	case op.Return:
		s.take(s.ret)
	case op.Print:
		s.take(ast.Int())
	case op.Pop:
		s.pop()
	case op.Get, op.Put, op.New, op.Cast, op.Is:
		s.object(i)
	case op.Call, op.Static:
		s.call(i)
	case op.Array, op.Load, op.Save:
		s.array(i)
	default:
		s.plain(i.Code)
	}
}

// plain is an instruction that names nothing, or what is of one type: a jump asks for nothing.
func (s *step) plain(c op.Code) {
	num, truth := ast.Int(), ast.Bool()
	switch c {
	case op.Int:
		s.lay(num)
	case op.Zero:
		s.lay(truth)
	case op.Null:
		s.lay(ast.Nothing())
	case op.Add, op.Sub, op.Mul, op.Div, op.Mod:
		s.take(num, num)
		s.lay(num)
	case op.Less, op.Most:
		s.take(num, num)
		s.lay(truth)
	case op.Neg:
		s.take(num)
		s.lay(num)
	case op.Not:
		s.take(truth)
		s.lay(truth)
	case op.Same, op.Other:
		s.held(c)
	case op.Length:
		t := s.pop()
		s.must(t.Array || t == ast.Nothing())
		s.lay(num)
	}
}

// held holds two words against each other.
func (s *step) held(c op.Code) {
	b, a := s.pop(), s.pop()
	if c == op.Same {
		s.must(a == b && !a.Object())
	} else {
		s.must(a.Object() && b.Object())
	}
	s.lay(ast.Bool())
}

func (s *step) object(i op.Instr) {
	switch i.Code {
	case op.Get:
		x := s.Fields[i.A]
		s.take(ast.Of(x.Class))
		s.lay(x.Type)
	case op.Put:
		x := s.Fields[i.A]
		s.take(ast.Of(x.Class), x.Type)
	case op.New:
		s.lay(ast.Of(s.Classes[i.A]))
	case op.Cast:
		s.some()
		s.lay(ast.Of(s.Classes[i.A]))
	case op.Is:
		s.some()
		s.lay(ast.Bool())
	}
}

// some takes an object of any class, or nothing.
func (s *step) some() {
	t := s.pop()
	s.must(t.Class() || t == ast.Nothing())
}

func (s *step) call(i op.Instr) {
	x := s.Methods[i.A]
	s.must(x.Static == (i.Code == op.Static))
	s.take(x.Params...)
	if i.Code == op.Call {
		s.take(ast.Of(x.Class))
	}
	s.lay(x.Ret)
}

func (s *step) array(i op.Instr) {
	t := s.Types[i.A]
	s.must(t.Array)
	switch i.Code {
	case op.Array:
		s.take(ast.Int())
		s.lay(t)
	case op.Load:
		s.take(t, ast.Int())
		s.lay(t.Elem())
	case op.Save:
		s.take(t, ast.Int(), t.Elem())
	}
}
