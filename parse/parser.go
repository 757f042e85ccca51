package parse

import (
	"slices"

	"kiln/api"
	"kiln/lex"
)

// parser goes through tokens. Behind its first fault it stands at the End, which no rule takes: so all of them come to their ends, and none has to ask.
type parser struct {
	rest  []lex.Token // from the next one on; the End is never taken
	deep  int         // parts that are open, of those that nest
	fault lex.Fault   // the first one
}

func (p *parser) next() lex.Token { return p.rest[0] }

// is tells whether the next token is one of these words and marks; no name or number has their texts.
func (p *parser) is(texts ...string) bool {
	return slices.Contains(texts, p.next().Text)
}

func (p *parser) take() lex.Token {
	t := p.next()
	if t.Kind != lex.End {
		p.rest = p.rest[1:]
	}
	return t
}

// skip takes the next token, if it is that one.
func (p *parser) skip(text string) bool {
	if !p.is(text) {
		return false
	}
	p.take()
	return true
}

func (p *parser) want(text string) {
	if !p.skip(text) {
		p.fail(api.ErrToken)
	}
}

// name is the text of a token that has to be of a kind.
func (p *parser) name(k lex.Kind) string {
	if p.next().Kind != k {
		p.fail(api.ErrToken)
		return ""
	}
	return p.take().Text
}

// fail tells a fault at the next token, unless there was one.
func (p *parser) fail(e api.Errno) {
	if p.fault == (lex.Fault{}) {
		p.fault = lex.Fault{E: e, At: p.next().At}
	}
	p.rest = p.rest[len(p.rest)-1:]
}

// nest goes into a part that begins at the next token; what it answers comes back out of it.
func (p *parser) nest() func() {
	if p.deep >= api.MaxNest {
		p.fail(api.ErrDeep)
	}
	p.deep++
	return func() { p.deep-- }
}

// bound tells of too many, but only at a token that may stand behind them: of any other one ErrToken is to be told, which is named first.
func (p *parser) bound(n int, behind ...string) {
	if n > api.MaxMembers && p.is(behind...) {
		p.fail(api.ErrMany)
	}
}

// list is parts in brackets, with commas between them.
func list[T any](p *parser, part func() T) []T {
	var all []T
	p.want("(")
	for more := !p.is(")"); more; more = p.skip(",") {
		all = append(all, part())
		p.bound(len(all), ",", ")")
	}
	p.want(")")
	return all
}
