package gen

import (
	"kiln/ast"
	"kiln/op"
)

func (b *body) block(list []ast.Stmt) {
	for i := range list {
		b.stmt(&list[i])
	}
}

// stmt lays a statement: ahead of it, and behind it, the stack is empty.
func (b *body) stmt(s *ast.Stmt) {
	if s.Does == ast.Put {
		b.put(&s.E[0], &s.E[1])
		return
	}
	first := len(b.Code)
	b.all(s.E, 0)
	switch s.Does {
	case ast.Let:
		b.lay(op.Store, b.local(s.Name))
	case ast.Do:
		b.lay(op.Pop, 0)
	case ast.Print:
		b.lay(op.Print, 0)
	case ast.Return:
		b.lay(op.Return, 0)
	case ast.While:
		unless := b.lay(op.Unless, 0)
		b.block(s.Then)
		b.lay(op.Jump, first)
		b.aim(unless)
	case ast.If:
		b.branch(func() { b.block(s.Then) }, func() { b.block(s.Else) })
	}
}

// put lays the Kids of a place ahead of the value: a local has none.
func (b *body) put(at, value *ast.Expr) {
	b.all(at.Kids, 0)
	b.expr(value, len(at.Kids))
	switch at.Kind {
	case ast.Local:
		b.lay(op.Store, b.locals[at.Name])
	case ast.Get:
		b.lay(op.Put, b.field(at))
	case ast.Elem:
		b.lay(op.Save, b.kind(at.Kids[0].Of))
	}
}
