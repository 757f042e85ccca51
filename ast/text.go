package ast

import (
	"strconv"
	"strings"
)

// Text is an expression as text: with brackets wherever there may be some.
func (e Expr) Text() string {
	var p page
	e.lay(&p)
	return p.String()
}

// Text is a statement as text, so far to the right.
func (s Stmt) Text(deep int) string {
	var p page
	s.lay(&p, max(deep, 0))
	return p.String()
}

// Text is a class as text.
func (c Class) Text() string {
	var p page
	p.put("class ", c.Name)
	if c.Super != "" {
		p.put(" extends ", c.Super)
	}
	p.put(" {\n")
	for _, f := range c.Fields {
		p.put("\tfield ")
		f.lay(&p)
		p.put(";\n")
	}
	for _, m := range c.Methods {
		m.lay(&p)
	}
	p.put("}\n")
	return p.String()
}

// page is where all parts of a tree lay their texts, each once: were each part a text of its own, deep trees would be copied over and over.
type page struct {
	b strings.Builder
}

func (p *page) put(texts ...string) {
	for _, t := range texts {
		p.b.WriteString(t)
	}
}

func (p *page) tabs(n int) { p.put(strings.Repeat("\t", n)) }

func (p *page) String() string { return p.b.String() }

// list lays parts with commas between them, in brackets.
func list[T any](p *page, parts []T, lay func(T, *page)) {
	p.put("(")
	for i, x := range parts {
		if i > 0 {
			p.put(", ")
		}
		lay(x, p)
	}
	p.put(")")
}

func (v Var) lay(p *page) { p.put(v.Type.Text(), " ", v.Name) }

func (m Method) lay(p *page) {
	p.put("\t")
	if m.Static {
		p.put("static ")
	}
	p.put("method ", m.Ret.Text(), " ", m.Name)
	list(p, m.Params, Var.lay)
	p.put(" {\n")
	layAll(p, m.Body, 2)
	p.put("\t}\n")
}

func layAll(p *page, body []Stmt, deep int) {
	for _, s := range body {
		s.lay(p, deep)
	}
}

func (s Stmt) lay(p *page, deep int) {
	p.tabs(deep)
	switch s.Does {
	case Let:
		p.put("let ", s.Type.Text(), " ", s.Name, " = ")
	case Put:
		nth(s.E, 0).lay(p)
		p.put(" = ")
		nth(s.E, 1).lay(p)
		p.put(";\n")
		return
	case If:
		s.layBlocks(p, "if ", deep)
		return
	case While:
		s.layBlocks(p, "while ", deep)
		return
	case Return:
		p.put("return ")
	case Print:
		p.put("print ")
	}
	nth(s.E, 0).lay(p)
	p.put(";\n")
}

func (s Stmt) layBlocks(p *page, word string, deep int) {
	p.put(word)
	nth(s.E, 0).lay(p)
	p.put(" {\n")
	layAll(p, s.Then, deep+1)
	if len(s.Else) > 0 {
		p.tabs(deep)
		p.put("} else {\n")
		layAll(p, s.Else, deep+1)
	}
	p.tabs(deep)
	p.put("}\n")
}

func (e Expr) lay(p *page) {
	switch e.Kind {
	case Num:
		p.put(strconv.FormatInt(e.Num, 10))
	case True:
		p.put("true")
	case False:
		p.put("false")
	case This:
		p.put("this")
	case Local:
		p.put(e.Name)
	case Get:
		e.layOne(p, "", "."+e.Name)
	case Call:
		e.layOne(p, "", "."+e.Name)
		list(p, e.Kids[min(1, len(e.Kids)):], Expr.lay)
	case Static:
		p.put(e.Type.Name, ".", e.Name)
		list(p, e.Kids, Expr.lay)
	case New:
		p.put("(new ", e.Type.Name, ")")
	case Array:
		e.layOne(p, "new "+e.Type.Name+"[", "]")
	case Elem:
		e.layTwo(p, "", "[", "]")
	case Length:
		e.layOne(p, "", ".length")
	case Neg:
		e.layOne(p, "(-", ")")
	case Not:
		e.layOne(p, "(!", ")")
	case Bin:
		e.layTwo(p, "(", " "+e.Name+" ", ")")
	case And:
		e.layTwo(p, "(", " && ", ")")
	case Or:
		e.layTwo(p, "(", " || ", ")")
	case As:
		e.layOne(p, "(", " as "+e.Type.Name+")")
	case Is:
		e.layOne(p, "(", " is "+e.Type.Name+")")
	default:
		p.put("null")
	}
}

func (e Expr) layOne(p *page, ahead, behind string) {
	p.put(ahead)
	nth(e.Kids, 0).lay(p)
	p.put(behind)
}

func (e Expr) layTwo(p *page, ahead, between, behind string) {
	p.put(ahead)
	nth(e.Kids, 0).lay(p)
	p.put(between)
	nth(e.Kids, 1).lay(p)
	p.put(behind)
}

// nth is one of a list, or, where it lacks, one without a kind, of which the text is null.
func nth(list []Expr, i int) Expr {
	if i < len(list) {
		return list[i]
	}
	return Expr{}
}
