package parse

import (
	"math/rand"
	"regexp"
	"slices"
	"strings"
	"testing"

	"kiln/api"
	"kiln/lex"
)

// grammar is the chapter's, with words of its own for what it says beside the rules: in and out of what nests; from and behind a stmt's expr;
// no bracket behind it (bare); a list begins, has one more, ends.
const grammar = `
class  = begin begin "class" Upper [ "extends" Upper ] "{" { field one | method two } "}" End
field  = "field" type Lower ";"
method = [ "static" ] "method" type Lower begin "(" [ type Lower one { "," type Lower one } ] ")" end block
type   = base [ "[" "]" ]
base   = "int" | "bool" | Upper
block  = in "{" { stmt } "}" out
stmt   = "let" type Lower "=" expr ";" | if | "while" expr block | "return" expr ";" | "print" expr ";" | from expr behind [ "=" expr ] ";"
if     = in "if" expr block [ "else" ( if | block ) ] out
expr   = in both { "||" both } out
both   = cmp { "&&" cmp }
cmp    = sum [ ( "==" | "!=" | "<" | "<=" ) sum ]
sum    = prod { ( "+" | "-" ) prod }
prod   = unary { ( "*" | "/" | "%" ) unary }
unary  = in ( "-" | "!" ) unary out | parts { ( "as" | "is" ) Upper }
parts  = prim { "[" expr "]" | "." "length" | "." Lower [ args ] }
args   = begin "(" [ expr one { "," expr one } ] ")" end
prim   = Number | Lower | "true" | "false" | "null" | "this" | Upper "." Lower args | "new" Upper bare | "new" base "[" expr "]" | "(" expr ")"
`

// part is a piece of a rule: all of its parts in order, one of them, none or more.
type part struct {
	how   byte // s, |, {, [, or t: a word
	word  string
	parts []*part
}

var ruleWord = regexp.MustCompile(`"[^"]+"|[a-zA-Z]+|[][(){}|=]`)

func rules() map[string]*part {
	all := map[string]*part{}
	for line := range strings.Lines(strings.TrimSpace(grammar)) {
		words := ruleWord.FindAllString(line, -1)
		p, rest := oneOf(words[2:])
		if len(rest) > 0 {
			panic(line)
		}
		all[words[0]] = p
	}
	return all
}

func oneOf(words []string) (*part, []string) {
	p := &part{how: '|'}
	for {
		row := &part{how: 's'}
		for len(words) > 0 && !strings.Contains("|)}]", words[0]) {
			var x *part
			switch words[0] {
			case "(", "{", "[":
				how := words[0][0]
				x, words = oneOf(words[1:])
				if how != '(' {
					x = &part{how: how, parts: []*part{x}}
				}
			default:
				x = &part{how: 't', word: words[0]}
			}
			row.parts = append(row.parts, x)
			words = words[1:]
		}
		p.parts = append(p.parts, row)
		if len(words) == 0 || words[0] != "|" {
			return p, words
		}
		words = words[1:]
	}
}

// stack is what is still to come, or what was counted; it is never turned, so that many ways may share it.
type stack[T any] struct {
	top  T
	rest *stack[T]
}

// way is one of the ways in which the tokens so far may be the beginning of a class.
type way struct {
	todo   *stack[*part]
	counts *stack[int]
	froms  *stack[int]
	nested int
	fault  api.Errno // the next token would be one by this way
}

type model struct {
	rules  map[string]*part
	tokens []lex.Token
	at     int
	next   []way // those that wait for a token
}

// fault says by going all ways at once what Class says.
func (m *model) fault() lex.Fault {
	ways := []way{{todo: &stack[*part]{top: m.rules["class"]}}}
	for m.at = range m.tokens {
		m.next = nil
		for _, w := range ways {
			m.open(w)
		}
		ways = nil
		e := api.ErrToken
		for _, w := range m.next {
			if !m.fits(w.todo.top.word) {
				continue
			}
			if w.fault == api.OK {
				w.todo = w.todo.rest
				ways = append(ways, w)
			} else {
				e = w.fault
			}
		}
		if len(ways) == 0 {
			return lex.Fault{E: e, At: m.tokens[m.at].At}
		}
	}
	return lex.Fault{}
}

func (m *model) fits(word string) bool {
	t := m.tokens[m.at]
	if word[0] == '"' {
		return t.Text == strings.Trim(word, `"`)
	}
	return map[string]lex.Kind{"Upper": lex.Upper, "Lower": lex.Lower, "Number": lex.Number, "End": lex.End}[word] == t.Kind
}

// open goes on by all ways till a token is asked for.
func (m *model) open(w way) {
	p := w.todo.top
	rest := w.todo.rest
	switch p.how {
	case 's':
		w.todo = rest
		for _, x := range slices.Backward(p.parts) {
			w.todo = &stack[*part]{x, w.todo}
		}
		m.open(w)
	case '|':
		for _, x := range p.parts {
			w.todo = &stack[*part]{x, rest}
			m.open(w)
		}
	case '{', '[':
		skip := w
		skip.todo = rest
		m.open(skip)
		if p.how == '{' {
			rest = w.todo
		}
		w.todo = &stack[*part]{p.parts[0], rest}
		m.open(w)
	case 't':
		m.word(w, p.word)
	}
}

func (m *model) word(w way, word string) {
	if r := m.rules[word]; r != nil {
		w.todo = &stack[*part]{r, w.todo.rest}
		m.open(w)
		return
	}
	if word[0] == '"' || word[0] < 'a' {
		m.next = append(m.next, w)
		return
	}
	w.todo = w.todo.rest
	switch word {
	case "in":
		if w.nested >= 100 {
			w.fault = api.ErrDeep
		}
		w.nested++
	case "out":
		w.nested--
	case "begin":
		w.counts = &stack[int]{0, w.counts}
	case "end":
		w.counts = w.counts.rest
	case "one":
		w.counts = &stack[int]{w.counts.top + 1, w.counts.rest}
		if w.counts.top > 200 {
			w.fault = api.ErrMany
		}
	case "two":
		two := w.counts.rest
		w.counts = &stack[int]{w.counts.top, &stack[int]{two.top + 1, two.rest}}
		if two.top+1 > 200 {
			w.fault = api.ErrMany
		}
	case "from":
		w.froms = &stack[int]{m.at, w.froms}
	case "behind":
		if !m.mayStand(m.tokens[w.froms.top:m.at]) {
			return
		}
		w.froms = w.froms.rest
	case "bare":
		if m.fits(`"["`) {
			return
		}
	}
	m.open(w)
}

// mayStand tells whether these tokens, an expr, may be a stmt's, ahead of the next token.
func (m *model) mayStand(e []lex.Token) bool {
	for e[0].Text == "(" && partner(e) == len(e)-1 {
		e = e[1 : len(e)-1]
	}
	depth := 0
	for _, t := range e {
		switch t.Text {
		case "(", "[":
			depth++
		case ")", "]":
			depth--
		}
		if depth == 0 && slices.Contains(strings.Fields("|| && == != < <= + - * / % ! as is"), t.Text) {
			return false
		}
	}
	last := e[len(e)-1]
	if m.fits(`"="`) {
		made := e[0].Text == "new" && 2+partner(e[2:]) == len(e)-1
		return last.Kind == lex.Lower || last.Text == "]" && !made
	}
	return last.Text == ")"
}

// partner is where the bracket is closed with which the tokens begin.
func partner(e []lex.Token) int {
	depth := 0
	for i, t := range e {
		switch t.Text {
		case "(", "[":
			depth++
		case ")", "]":
			depth--
		}
		if depth == 0 {
			return i
		}
	}
	return len(e)
}

func checkModel(t *testing.T, r map[string]*part, s string) api.Errno {
	t.Helper()
	tokens, f := lex.All(s)
	if f.E != api.OK {
		t.Fatalf("%.2000q: %v", s, f)
	}
	m := model{rules: r, tokens: tokens}
	want := m.fault()
	c, got := Class(s)
	if got != want {
		t.Fatalf("%.5000q: %v, not %v", s, got, want)
	}
	if got.E == api.OK {
		again, f := Class(c.Text())
		if f.E != api.OK || !again.Same(c) {
			t.Fatalf("%.5000q: %v", c.Text(), f)
		}
	}
	return got.E
}

func anyToken(r *rand.Rand) string {
	all := append(strings.Fields(allWords+" "+allMarks+" "+"; ; ( ( ) ) [ ] . . , - ! = = { }"), "x", "x", "x", "y", "A", "A", "B", "1", "2")
	return all[r.Intn(len(all))]
}

// P6.1: classes by chance, in which some tokens are turned: the first token at which the rules can't go on is told.
func TestTurnedByChance(t *testing.T) {
	rs := rules()
	r := rand.New(rand.NewSource(61))
	seen := map[api.Errno]int{}
	for range 4000 {
		m := newMaker(r)
		m.room = 5 + r.Intn(120)
		m.class()
		words := m.tokens
		for range r.Intn(3) {
			i := r.Intn(len(words))
			switch r.Intn(4) {
			case 0:
				words = slices.Delete(words, i, i+1)
			case 1:
				words = slices.Insert(words, i, anyToken(r))
			case 2:
				words[i] = anyToken(r)
			case 3:
				j := r.Intn(len(words))
				words[i], words[j] = words[j], words[i]
			}
		}
		seen[checkModel(t, rs, strings.Join(words, " "))]++
	}
	if seen[api.OK] < 1000 || seen[api.ErrToken] < 1000 {
		t.Error(seen)
	}
}

// P6.1: what comes of each token behind each beginning.
func TestEachTokenEverywhere(t *testing.T) {
	rs := rules()
	const s = "class A extends B { field int [ ] x ; static method bool m ( int x , B [ ] y ) { let int x = - 1 ; if x { x = y . f ; } else if ! y { x . m ( 1 , y [ 2 ] ) ; } else { } " +
		"while x < 1 + 2 * 3 && true || null == this { A . m ( ) ; } print new A ; return ( new int [ 3 ] . length ) ; x [ 0 ] = new B [ 1 ] [ 2 ] as B is A ; } field A y ; }"
	words := strings.Fields(s)
	for i := range len(words) + 1 {
		for _, w := range append(strings.Fields(allWords+" "+allMarks), "x", "A", "1") {
			ahead, behind := strings.Join(words[:i], " "), strings.Join(words[i:], " ")
			checkModel(t, rs, ahead+" "+w)
			checkModel(t, rs, ahead+" "+w+" "+behind)
		}
		checkModel(t, rs, strings.Join(words[:i], " "))
		if i < len(words) {
			checkModel(t, rs, strings.Join(words[:i], " ")+" "+strings.Join(words[i+1:], " "))
		}
	}
}

// P6.1: near the bound of what nests, and of what lists may have.
func TestBoundsByChance(t *testing.T) {
	rs := rules()
	r := rand.New(rand.NewSource(62))
	seen := map[api.Errno]int{}
	inStmt := []string{"while x {", "if x {", "if x { } else {", "if x { } else", "if x { x = 1 ; } else", "while - 1 {"}
	inExpr := []string{"(", "-", "!", "x [", "x . m (", "A . m (", "new int [", "1 + (", "x . m ( 1 ,", "- ("}
	begin := []string{"return", "x =", "print 1 +", "if", "while", "", "let int x ="}
	for range 6000 {
		words := []string{"class A { method int m ( ) {"}
		stmts := r.Intn(3) * r.Intn(50)
		for range stmts {
			words = append(words, inStmt[r.Intn(len(inStmt))])
		}
		words = append(words, begin[r.Intn(len(begin))])
		few := inExpr[:1+r.Intn(len(inExpr))]
		for range max(0, 80-stmts+r.Intn(25)) {
			words = append(words, few[r.Intn(len(few))])
		}
		for range 1 + r.Intn(8) {
			words = append(words, anyToken(r))
		}
		seen[checkModel(t, rs, strings.Join(words, " "))]++
	}
	lists := [][3]string{{"class A {", "field int x ;", ""}, {"class A {", "method int m ( ) { }", ""}, {"class A { method int m (", "int x", ","}, {"class A { method int m ( ) { x . m (", "1", ","}, {"class A { method int m ( ) { return ( A . m (", "- x", ","}}
	for range 600 {
		l := lists[r.Intn(len(lists))]
		words := []string{l[0], strings.Repeat(l[1]+" "+l[2]+" ", 198+r.Intn(4)), l[1]}
		for range 1 + r.Intn(3) {
			words = append(words, []string{l[2], ")", "}", l[1], "field int y ;", "method int n ( ) { }", anyToken(r)}[r.Intn(7)])
		}
		seen[checkModel(t, rs, strings.Join(words, " "))]++
	}
	if seen[api.ErrToken] < 500 || seen[api.ErrDeep] < 500 || seen[api.ErrMany] < 100 {
		t.Error(seen)
	}
}
