package parse

import (
	"kiln/api"
	"kiln/ast"
	"kiln/lex"
)

func (p *parser) block() []ast.Stmt {
	if !p.is("{") {
		p.fail(api.ErrToken)
		return nil
	}
	defer p.nest()()
	p.want("{")
	var all []ast.Stmt
	for p.next().Kind != lex.End && !p.is("}") {
		all = append(all, p.stmt())
	}
	p.want("}")
	return all
}

func (p *parser) stmt() ast.Stmt {
	s := ast.Stmt{At: p.next().At}
	switch {
	case p.is("if"):
		return p.cond()
	case p.skip("while"):
		s.Does = ast.While
		s.E = p.one()
		s.Then = p.block()
		return s
	case p.skip("let"):
		s.Does = ast.Let
		s.Type = p.fullType()
		s.Name = p.name(lex.Lower)
		p.want("=")
		s.E = p.one()
	case p.skip("return"):
		s.Does = ast.Return
		s.E = p.one()
	case p.skip("print"):
		s.Does = ast.Print
		s.E = p.one()
	default:
		s.Does, s.E = p.act()
	}
	p.want(";")
	return s
}

func (p *parser) cond() ast.Stmt {
	defer p.nest()()
	s := ast.Stmt{Does: ast.If, At: p.take().At}
	s.E = p.one()
	s.Then = p.block()
	if p.skip("else") {
		if p.is("if") {
			s.Else = []ast.Stmt{p.cond()}
		} else {
			s.Else = p.block()
		}
	}
	return s
}

// act is what begins with an expression: something is put there, or it is called.
func (p *parser) act() (ast.Does, []ast.Expr) {
	e := p.expr()
	if p.is("=") {
		if !isPlace(e) {
			p.fail(api.ErrToken)
		}
		p.skip("=")
		return ast.Put, []ast.Expr{e, p.expr()}
	}
	if e.Kind != ast.Call && e.Kind != ast.Static {
		p.fail(api.ErrToken)
	}
	return ast.Do, []ast.Expr{e}
}

func isPlace(e ast.Expr) bool {
	return e.Kind == ast.Local || e.Kind == ast.Get || e.Kind == ast.Elem
}

func (p *parser) one() []ast.Expr { return []ast.Expr{p.expr()} }
