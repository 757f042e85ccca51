package parse

import (
	"kiln/api"
	"kiln/ast"
	"kiln/lex"
)

func (p *parser) expr() ast.Expr {
	// Asked ahead of the depth: ErrToken is named first.
	if !p.begins() {
		p.fail(api.ErrToken)
		return ast.Expr{}
	}
	defer p.nest()()
	return p.left(p.both, "||")
}

// begins tells whether an expression may begin with the next token.
func (p *parser) begins() bool {
	switch p.next().Kind {
	case lex.Number, lex.Lower, lex.Upper:
		return true
	}
	return p.is("true", "false", "null", "this", "new", "(", "-", "!")
}

func (p *parser) both() ast.Expr { return p.left(p.cmp, "&&") }

// cmp has one sign at most: what is compared is not compared again.
func (p *parser) cmp() ast.Expr {
	e := p.sum()
	if p.is("==", "!=", "<", "<=") {
		e = p.two(e, p.sum)
	}
	return e
}

func (p *parser) sum() ast.Expr { return p.left(p.prod, "+", "-") }

func (p *parser) prod() ast.Expr { return p.left(p.unary, "*", "/", "%") }

// left is parts with signs between them, each sign bound to all that is ahead of it.
func (p *parser) left(part func() ast.Expr, signs ...string) ast.Expr {
	e := part()
	for p.is(signs...) {
		e = p.two(e, part)
	}
	return e
}

// two is a sign with what is ahead of it, and the part behind it.
func (p *parser) two(ahead ast.Expr, part func() ast.Expr) ast.Expr {
	t := p.take()
	e := ast.Expr{At: t.At, Kids: []ast.Expr{ahead, part()}}
	switch t.Text {
	case "||":
		e.Kind = ast.Or
	case "&&":
		e.Kind = ast.And
	default:
		e.Kind = ast.Bin
		e.Name = t.Text
	}
	return e
}

func (p *parser) unary() ast.Expr {
	switch {
	case p.is("-"):
		return p.sign(ast.Neg)
	case p.is("!"):
		return p.sign(ast.Not)
	}
	e := p.parts()
	for {
		switch {
		case p.is("as"):
			e = p.asked(ast.As, e)
		case p.is("is"):
			e = p.asked(ast.Is, e)
		default:
			return e
		}
	}
}

func (p *parser) sign(k ast.Kind) ast.Expr {
	defer p.nest()()
	t := p.take()
	return ast.Expr{Kind: k, At: t.At, Kids: []ast.Expr{p.unary()}}
}

func (p *parser) asked(k ast.Kind, kid ast.Expr) ast.Expr {
	t := p.take()
	return ast.Expr{Kind: k, At: t.At, Type: ast.Of(p.name(lex.Upper)), Kids: []ast.Expr{kid}}
}
