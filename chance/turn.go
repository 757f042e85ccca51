package chance

import (
	"slices"

	"kiln/api"
	"kiln/ast"
	"kiln/class"
	"kiln/op"
)

// Turned is files of which one is turned in one place of its code, or names one thing more, the same of one seed. Right files stay right; whether the code may go wrong is chance.
func Turned(seed uint64, list []class.File) []class.File {
	t := turner{dice: dice{seed}}
	list = slices.Clone(list)
	i := t.below(len(list))
	t.File = list[i]
	if t.one(3) {
		t.name(pick(&t.dice, list...))
	} else if len(t.Bodies) > 0 {
		t.Bodies = slices.Clone(t.Bodies)
		t.turn(&t.Bodies[t.below(len(t.Bodies))])
	}
	list[i] = t.File
	return list
}

// turner is a file that is being turned.
type turner struct {
	dice
	class.File
}

// name lets the pool name something more of a file.
func (t *turner) name(f class.File) {
	switch t.below(5) {
	case 0:
		t.Nums = append(slices.Clone(t.Nums), int64(t.below(7)-3))
	case 1:
		t.Classes = append(slices.Clone(t.Classes), f.Name)
	case 2:
		kind := pick(&t.dice, ast.Int(), ast.Bool(), ast.Of(f.Name))
		kind.Array = !t.one(6)
		t.Types = append(slices.Clone(t.Types), kind)
	case 3:
		for _, x := range f.Face.Fields {
			t.Pool.Fields = append(slices.Clone(t.Pool.Fields), class.Field{Var: x, Class: f.Name})
		}
	case 4:
		for _, x := range f.Face.Methods {
			t.Pool.Methods = append(slices.Clone(t.Pool.Methods), class.Method{Sig: x, Class: f.Name})
		}
	}
}

func (t *turner) turn(b *class.Body) {
	at := t.below(len(b.Code))
	switch t.below(12) {
	case 0, 1:
		b.Code = slices.Clone(b.Code)
		b.Code[at].A = t.number(b, b.Code[at].Code)
	case 2:
		b.Code = slices.Clone(b.Code)
		b.Code[at] = t.instr(b)
	case 3:
		t.replace(b, at, 0, t.instrs(b, 1+t.below(3)))
	case 4:
		t.replace(b, at, min(1+t.below(3), len(b.Code)-at), nil)
	case 5:
		t.replace(b, at, 0, t.piece(b))
	case 6:
		b.Code = slices.Clone(b.Code)
		o := t.below(len(b.Code))
		b.Code[at], b.Code[o] = b.Code[o], b.Code[at]
	case 7:
		b.Locals = min(b.Locals+t.below(2), 2*api.MaxMembers)
		b.Stack = max(0, min(b.Stack+t.below(4)-1, api.MaxStack))
	default:
		t.replace(b, at, 0, t.pair(b))
	}
}

// pair is two instructions that leave the stack as it was.
func (t *turner) pair(b *class.Body) []op.Instr {
	first := pick(&t.dice, op.Int, op.Null, op.Local, op.New, op.Zero)
	last := pick(&t.dice, op.Store, op.Store, op.Pop)
	if first == op.Zero {
		last = op.Unless
	}
	if n := last.Pool(); n != 0 && t.many(b, n) == 0 {
		last = op.Pop
	}
	if n := first.Pool(); n != 0 && t.many(b, n) == 0 {
		first = op.Null
	}
	return []op.Instr{{Code: first, A: t.number(b, first)}, {Code: last, A: t.number(b, last)}}
}

// replace puts other instructions where some stand; jumps go on to where they went. Code that would have no instructions, or too many, stays as it is.
func (t *turner) replace(b *class.Body, at, gone int, list []op.Instr) {
	more := len(list) - gone
	if n := len(b.Code) + more; n < 1 || n > api.MaxCode {
		return
	}
	old := slices.Clone(b.Code)
	for i := range old {
		if old[i].Code.Pool() == 'j' && old[i].A >= at+gone {
			old[i].A += more
		}
	}
	b.Code = slices.Replace(old, at, at+gone, list...)
	for i := range b.Code {
		if b.Code[i].Code.Pool() == 'j' {
			b.Code[i].A = min(b.Code[i].A, len(b.Code)-1)
		}
	}
}

// piece is some instructions that stand behind each other already.
func (t *turner) piece(b *class.Body) []op.Instr {
	from := t.below(len(b.Code))
	return slices.Clone(b.Code[from:min(from+1+t.below(6), len(b.Code))])
}

func (t *turner) instrs(b *class.Body, n int) []op.Instr {
	var list []op.Instr
	for range n {
		list = append(list, t.instr(b))
	}
	return list
}

// instr is any instruction of what there is.
func (t *turner) instr(b *class.Body) op.Instr {
	for {
		c := op.Code(1 + t.below(int(op.Zero)))
		if c.Pool() == 0 || t.many(b, c.Pool()) > 0 {
			return op.Instr{Code: c, A: t.number(b, c)}
		}
	}
}

func (t *turner) number(b *class.Body, c op.Code) int {
	if n := t.many(b, c.Pool()); n > 0 {
		return t.below(n)
	}
	return 0
}

// many is how many there are of what a number stands for.
func (t *turner) many(b *class.Body, pool rune) int {
	switch pool {
	case 'n':
		return len(t.Nums)
	case 'c':
		return len(t.Classes)
	case 't':
		return len(t.Types)
	case 'f':
		return len(t.Pool.Fields)
	case 'm':
		return len(t.Pool.Methods)
	case 'l':
		return b.Locals
	case 'j':
		return len(b.Code)
	case 'b':
		return 2
	}
	return 0
}
