package parse

import (
	"kiln/api"
	"kiln/ast"
	"kiln/lex"
)

func (p *parser) class() ast.Class {
	c := ast.Class{At: p.next().At}
	p.want("class")
	c.Name = p.name(lex.Upper)
	if p.skip("extends") {
		c.Super = p.name(lex.Upper)
	}
	p.want("{")
	p.members(&c)
	p.want("}")
	if p.next().Kind != lex.End {
		p.fail(api.ErrToken)
	}
	return c
}

func (p *parser) members(c *ast.Class) {
	for p.is("field", "static", "method") {
		if p.skip("field") {
			c.Fields = append(c.Fields, p.variable())
			p.want(";")
		} else {
			c.Methods = append(c.Methods, p.method())
		}
		p.bound(max(len(c.Fields), len(c.Methods)), "field", "static", "method", "}")
	}
}

func (p *parser) method() ast.Method {
	m := ast.Method{At: p.next().At}
	m.Static = p.skip("static")
	p.want("method")
	m.Ret = p.fullType()
	m.Name = p.name(lex.Lower)
	m.Params = list(p, p.variable)
	m.Body = p.block()
	return m
}

func (p *parser) variable() ast.Var {
	t := p.fullType()
	return ast.Var{Type: t, Name: p.name(lex.Lower)}
}

func (p *parser) fullType() ast.Type {
	t := p.base()
	if p.skip("[") {
		p.want("]")
		t.Array = true
	}
	return t
}

func (p *parser) base() ast.Type {
	if p.is("int", "bool") {
		return ast.Type{Name: p.take().Text}
	}
	return ast.Of(p.name(lex.Upper))
}
