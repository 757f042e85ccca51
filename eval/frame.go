package eval

import "kiln/ast"

// frame is a call that is under way, on its machine.
type frame struct {
	*machine
	up     *frame
	this   value
	locals []local
	tasks  int // how many there were ahead of it
}

// local is a local by its name. It stays behind its block: nobody asks for it there, and a Let of that name puts it again.
type local struct {
	name string
	value
}

// task is an expression, a statement or a block that is under way.
type task struct {
	expr  *ast.Expr
	stmt  *ast.Stmt
	block *[]ast.Stmt
	begun int // how many of those in it
}

// turn goes on with the last task, up to the next one that begins, or ends.
func (f *frame) turn() {
	if len(f.work) == f.tasks {
		f.leave(value{})
		return
	}
	t := &f.work[len(f.work)-1]
	switch {
	case t.expr != nil:
		f.expr(t)
	case t.stmt != nil:
		f.stmt(t)
	default:
		f.block(t)
	}
}

// leave ends the call, with all that is under way in it.
func (f *frame) leave(v value) {
	f.work = f.work[:f.tasks]
	f.Deep++
	f.top = f.up
	f.push(v)
}

func (f *frame) get(name string) value {
	for i := range f.locals {
		if f.locals[i].name == name {
			return f.locals[i].value
		}
	}
	return value{}
}

func (f *frame) put(name string, v value) {
	for i := range f.locals {
		if f.locals[i].name == name {
			f.locals[i].value = v
			return
		}
	}
	f.locals = append(f.locals, local{name, v})
}
