package lex

import (
	"strings"

	"kiln/api"
)

// maxNum is the greatest number that may stand in a text.
const maxNum = 1 << 58

// marks has those of two bytes ahead: the longest one is found first.
var marks = [...]string{
	"==", "!=", "<=", "&&", "||",
	"+", "-", "*", "/", "%", "<", "=", "!",
	"(", ")", "[", "]", "{", "}", ";", ",", ".",
}

var words = [...]string{
	"as", "bool", "class", "else", "extends", "false", "field",
	"if", "int", "is", "length", "let", "method", "new",
	"null", "print", "return", "static", "this", "true", "while",
}

// first is the longest token with which a text begins; its place is the caller's to say.
func first(s string) (Token, api.Errno) {
	switch {
	case s == "":
		return Token{Kind: End}, api.OK
	case isUpper(s[0]):
		return name(Upper, run(s, inName))
	case isLower(s[0]):
		return name(Lower, run(s, inName))
	case isDigit(s[0]):
		return number(run(s, isDigit))
	}
	return mark(s)
}

func name(k Kind, s string) (Token, api.Errno) {
	if len(s) > api.MaxName {
		return Token{}, api.ErrMany
	}
	if isWord(s) {
		k = Word
	}
	return Token{Kind: k, Text: s}, api.OK
}

func number(s string) (Token, api.Errno) {
	n := int64(0)
	for i := range len(s) {
		n = 10*n + int64(s[i]-'0')
		// Asked at each digit: behind some more of them n would wrap round.
		if n > maxNum {
			return Token{}, api.ErrNum
		}
	}
	return Token{Kind: Number, Text: s, Num: n}, api.OK
}

func mark(s string) (Token, api.Errno) {
	for _, m := range marks {
		if strings.HasPrefix(s, m) {
			return Token{Kind: Mark, Text: m}, api.OK
		}
	}
	return Token{}, api.ErrSign
}

func isWord(s string) bool {
	for _, w := range words {
		if s == w {
			return true
		}
	}
	return false
}

// run is the bytes at a text's beginning that are all of one kind.
func run(s string, is func(byte) bool) string {
	n := 0
	for n < len(s) && is(s[n]) {
		n++
	}
	return s[:n]
}

func inName(c byte) bool  { return isUpper(c) || isLower(c) || isDigit(c) || c == '_' }
func isUpper(c byte) bool { return 'A' <= c && c <= 'Z' }
func isLower(c byte) bool { return 'a' <= c && c <= 'z' }
func isDigit(c byte) bool { return '0' <= c && c <= '9' }
