package gen

import (
	"kiln/ast"
	"kiln/op"
)

// all lays expressions, each with the words of those ahead of it beneath.
func (b *body) all(list []ast.Expr, beneath int) {
	for i := range list {
		b.expr(&list[i], beneath+i)
	}
}

// expr lays an expression where so many words are on the stack: behind it there is one more, and only its Kids may rise higher.
func (b *body) expr(e *ast.Expr, beneath int) {
	b.Stack = max(b.Stack, beneath+1)
	switch e.Kind {
	case ast.And:
		b.expr(&e.Kids[0], beneath)
		b.branch(func() { b.expr(&e.Kids[1], beneath) }, func() { b.lay(op.Zero, 0) })
	case ast.Or:
		b.expr(&e.Kids[0], beneath)
		b.branch(func() { b.lay(op.Zero, 1) }, func() { b.expr(&e.Kids[1], beneath) })
	default:
		b.all(e.Kids, beneath)
		b.own(e)
	}
}

// own lays what an expression does with the words of its Kids.
func (b *body) own(e *ast.Expr) {
	switch e.Kind {
	case ast.Num, ast.True, ast.False, ast.Null, ast.This, ast.Local:
		b.leaf(e)
	case ast.Get:
		b.lay(op.Get, b.field(e))
	case ast.Call:
		b.lay(op.Call, b.method(e))
	case ast.Static:
		b.lay(op.Static, b.method(e))
	case ast.New:
		b.lay(op.New, b.class(e.Type.Name))
	case ast.As:
		b.lay(op.Cast, b.class(e.Type.Name))
	case ast.Is:
		b.lay(op.Is, b.class(e.Type.Name))
	case ast.Array:
		b.lay(op.Array, b.kind(e.Of))
	case ast.Elem:
		b.lay(op.Load, b.kind(e.Kids[0].Of))
	default:
		b.operator(e)
	}
}

func (b *body) leaf(e *ast.Expr) {
	switch e.Kind {
	case ast.Num:
		b.lay(op.Int, b.num(e.Num))
	case ast.True:
		b.lay(op.Zero, 1)
	case ast.False:
		b.lay(op.Zero, 0)
	case ast.Null:
		b.lay(op.Null, 0)
	case ast.This:
		b.lay(op.Local, 0)
	case ast.Local:
		b.lay(op.Local, b.locals[e.Name])
	}
}

// operator lays what names nothing.
func (b *body) operator(e *ast.Expr) {
	switch e.Kind {
	case ast.Length:
		b.lay(op.Length, 0)
	case ast.Neg:
		b.lay(op.Neg, 0)
	case ast.Not:
		b.lay(op.Not, 0)
	case ast.Bin:
		b.lay(sign(e.Name, e.Kids[0].Of), 0)
		if e.Name == "!=" {
			b.lay(op.Not, 0)
		}
	}
}

// sign is the code of an operator, by the type of its first Kid.
func sign(name string, t ast.Type) op.Code {
	switch name {
	case "+":
		return op.Add
	case "-":
		return op.Sub
	case "*":
		return op.Mul
	case "/":
		return op.Div
	case "%":
		return op.Mod
	case "<":
		return op.Less
	case "<=":
		return op.Most
	}
	if t.Object() {
		return op.Other
	}
	return op.Same
}
