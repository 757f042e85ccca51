package verify

import (
	"kiln/ast"
	"kiln/class"
)

// code is a method's instructions, with what is known ahead of each of them so far.
type code struct {
	*kinds
	class.Pool
	class.Body
	ret   ast.Type
	ahead []place
	first int // the first instruction so far at which there is a fault; behind the last one: there is none
}

// place is what is known of each local, and of each word of the stack behind them.
type place struct {
	slots  []kind
	come   bool  // whether anything comes to it
	turned []int // the slots of which something else is known than when it was last gone on from
	waits  bool  // whether it is to be gone on from
}

// code is a method of a file, at its beginning.
func (k *kinds) code(f class.File, method int) *code {
	b, s := f.Bodies[method], f.Face.Methods[method]
	c := &code{kinds: k, Pool: f.Pool, Body: b, ret: s.Ret, ahead: make([]place, len(b.Code)), first: len(b.Code)}
	var given []kind
	if !s.Static {
		given = append(given, k.of(ast.Of(f.Name)))
	}
	for _, t := range s.Params {
		given = append(given, k.of(t))
	}
	locals := make([]kind, b.Locals)
	copy(locals, given)
	c.ahead[0] = come(locals)
	return c
}

// come is a place that is come to for the first time.
func come(slots []kind) place {
	p := place{slots: slots, come: true, waits: true}
	for i := range slots {
		p.turned = append(p.turned, i)
	}
	return p
}

// fault is the first instruction at which there is one. Also behind one all other ways are gone: one of them may lead back to an instruction ahead of it.
func (c *code) fault() (int, bool) {
	for c.sweep() {
	}
	return c.first, c.first < len(c.Code)
}

// sweep goes through the code from its beginning to its end, on from each instruction that waits. Ways back wait for the next sweep, so that what many of them bring is gone on with but once.
func (c *code) sweep() bool {
	went := false
	for at := range c.ahead {
		if c.ahead[at].waits {
			c.pass(at)
			went = true
		}
	}
	return went
}

// pass goes on from an instruction to those that come next; from one at which there is a fault to none.
func (c *code) pass(at int) {
	i, p := c.Code[at], &c.ahead[at]
	s := step{code: c, place: *p, rest: len(p.slots), slot: none}
	p.turned, p.waits = nil, false
	s.do(i)
	goesOn := !i.Code.Ends()
	if s.wrong || goesOn && at+1 == len(c.Code) {
		c.blame(at)
		return
	}
	if goesOn {
		c.reach(at+1, s)
	}
	if i.Code.Pool() == 'j' {
		c.reach(i.A, s)
	}
}

// reach brings to an instruction what is known behind another one: if it was there already, what turned there alone.
func (c *code) reach(at int, s step) {
	p := &c.ahead[at]
	if !p.come {
		*p = come(s.behind())
		return
	}
	if len(p.slots) != s.high() {
		c.blame(at)
		return
	}
	for _, i := range s.turned {
		if i < s.rest && i != s.slot {
			c.turn(at, i, s.slots[i])
		}
	}
	if s.slot != none {
		c.turn(at, s.slot, s.laid)
	}
}

// turn brings one way more to a slot.
func (c *code) turn(at, slot int, k kind) {
	p := &c.ahead[at]
	both := c.common(p.slots[slot], k)
	switch {
	case both == p.slots[slot]:
	case both == unknown && slot >= c.Locals:
		c.blame(at)
	default:
		p.slots[slot] = both
		p.turned = append(p.turned, slot)
		p.waits = true
	}
}

func (c *code) blame(at int) { c.first = min(c.first, at) }
