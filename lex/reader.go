package lex

import (
	"strings"

	"kiln/api"
)

// reader goes through a text, and keeps its place in it.
type reader struct {
	text string
	at   int // bytes that are behind it
	line int
	from int // where the line began
}

// next is the next token, or at least its place beside an error.
func (r *reader) next() (Token, api.Errno) {
	r.skip()
	at := api.Pos{Line: r.line, Col: r.at - r.from + 1}
	t, e := first(r.text[r.at:])
	t.At = at
	// No token has a newline in it: the line stays.
	r.at += len(t.Text)
	return t, e
}

// skip goes to where the next token has to begin.
func (r *reader) skip() {
	for r.at < len(r.text) {
		switch rest := r.text[r.at:]; {
		case rest[0] == '\n':
			r.at++
			r.line++
			r.from = r.at
		case rest[0] == ' ' || rest[0] == '\t' || rest[0] == '\r':
			r.at++
		case strings.HasPrefix(rest, "//"):
			r.at += remark(rest)
		default:
			return
		}
	}
}

// remark is how many bytes a remark has; the newline behind it is left, so that it is counted.
func remark(s string) int {
	if n := strings.IndexByte(s, '\n'); n >= 0 {
		return n
	}
	return len(s)
}
