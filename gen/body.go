package gen

import (
	"kiln/ast"
	"kiln/class"
	"kiln/op"
)

// body is a method's code as far as it is laid, with the locals by their names.
type body struct {
	*pool
	class.Body
	locals map[string]int
}

// body is the code of a method.
func (p *pool) body(m *ast.Method) class.Body {
	b := body{pool: p, locals: map[string]int{}}
	// The first one is this: no name stands for it.
	if !m.Static {
		b.Locals++
	}
	for _, v := range m.Params {
		b.local(v.Name)
	}
	b.block(m.Body)
	// Also behind a return: nobody asks whether the end is ever come to.
	b.stmt(&ast.Stmt{Does: ast.Return, E: []ast.Expr{unsaid(m.Ret)}})
	return b.Body
}

// unsaid is what a method returns that comes to its end.
func unsaid(t ast.Type) ast.Expr {
	switch t {
	case ast.Int():
		return ast.Expr{Kind: ast.Num}
	case ast.Bool():
		return ast.Expr{Kind: ast.False}
	}
	return ast.Expr{Kind: ast.Null}
}

// local is the next local. A name may be another one's again only where that one is gone: the last one of it is always the one that is meant.
func (b *body) local(name string) int {
	i := b.Locals
	b.locals[name] = i
	b.Locals++
	return i
}

// lay lays an instruction behind the others, and tells where it stands.
func (b *body) lay(c op.Code, a int) int {
	b.Code = append(b.Code, op.Instr{Code: c, A: a})
	return len(b.Code) - 1
}

// aim turns a jump to what will be laid next.
func (b *body) aim(jump int) { b.Code[jump].A = len(b.Code) }

// branch lays what comes if the word on top is yes, and what comes if it is no.
func (b *body) branch(yes, no func()) {
	unless := b.lay(op.Unless, 0)
	yes()
	jump := b.lay(op.Jump, 0)
	b.aim(unless)
	no()
	b.aim(jump)
}
