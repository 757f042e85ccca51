package parse

import (
	"kiln/api"
	"kiln/ast"
	"kiln/lex"
)

func (p *parser) parts() ast.Expr {
	e := p.prim()
	for {
		switch {
		case p.is("["):
			e = p.elem(e)
		case p.is("."):
			e = p.member(e)
		default:
			return e
		}
	}
}

func (p *parser) elem(array ast.Expr) ast.Expr {
	t := p.take()
	e := ast.Expr{Kind: ast.Elem, At: t.At, Kids: []ast.Expr{array, p.expr()}}
	p.want("]")
	return e
}

func (p *parser) member(object ast.Expr) ast.Expr {
	e := ast.Expr{At: p.take().At, Kids: []ast.Expr{object}}
	if p.skip("length") {
		e.Kind = ast.Length
		return e
	}
	e.Name = p.name(lex.Lower)
	if !p.is("(") {
		e.Kind = ast.Get
		return e
	}
	e.Kind = ast.Call
	e.Kids = append(e.Kids, list(p, p.expr)...)
	return e
}

func (p *parser) prim() ast.Expr {
	t := p.next()
	switch {
	case t.Kind == lex.Number:
		p.take()
		return ast.Expr{Kind: ast.Num, At: t.At, Num: t.Num}
	case t.Kind == lex.Lower:
		p.take()
		return ast.Expr{Kind: ast.Local, At: t.At, Name: t.Text}
	case t.Kind == lex.Upper:
		return p.static()
	case p.is("new"):
		return p.made()
	case p.skip("("):
		e := p.expr()
		p.want(")")
		return e
	}
	return p.constant()
}

func (p *parser) constant() ast.Expr {
	t := p.next()
	switch {
	case p.skip("true"):
		return ast.Expr{Kind: ast.True, At: t.At}
	case p.skip("false"):
		return ast.Expr{Kind: ast.False, At: t.At}
	case p.skip("null"):
		return ast.Expr{Kind: ast.Null, At: t.At}
	case p.skip("this"):
		return ast.Expr{Kind: ast.This, At: t.At}
	}
	p.fail(api.ErrToken)
	return ast.Expr{}
}

func (p *parser) static() ast.Expr {
	e := ast.Expr{Kind: ast.Static, At: p.next().At}
	e.Type = ast.Of(p.name(lex.Upper))
	p.want(".")
	e.Name = p.name(lex.Lower)
	e.Kids = list(p, p.expr)
	return e
}

// made is an object, or an array: of int and bool there are arrays alone.
func (p *parser) made() ast.Expr {
	e := ast.Expr{Kind: ast.New, At: p.take().At, Type: p.base()}
	if e.Type.Class() && !p.is("[") {
		return e
	}
	p.want("[")
	e.Kind = ast.Array
	e.Kids = []ast.Expr{p.expr()}
	p.want("]")
	return e
}
