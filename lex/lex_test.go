package lex

import (
	"math/rand"
	"regexp"
	"slices"
	"strconv"
	"strings"
	"testing"

	"kiln/api"
)

func at(line, col int) api.Pos { return api.Pos{Line: line, Col: col} }

// tokens is those of a text without a fault, without their places and the End.
func tokens(t *testing.T, s string) []Token {
	t.Helper()
	all, f := All(s)
	if f != (Fault{}) || len(all) == 0 {
		t.Fatalf("%.60q: %v, %d tokens", s, f, len(all))
	}
	end := all[len(all)-1]
	if end.Kind != End || end.Text != "" || end.Num != 0 {
		t.Fatalf("%.60q ends with %v", s, end)
	}
	all = all[:len(all)-1]
	for i := range all {
		all[i].At = api.Pos{}
	}
	return all
}

func checkTokens(t *testing.T, s string, want ...Token) {
	t.Helper()
	if got := tokens(t, s); !slices.Equal(got, want) {
		t.Errorf("%.60q: %v, not %v", s, got, want)
	}
}

func checkFault(t *testing.T, s string, want Fault) {
	t.Helper()
	got, f := All(s)
	if f != want || len(got) != 0 {
		t.Errorf("%.60q: %v beside %d tokens, not %v", s, f, len(got), want)
	}
}

const allWords = "as bool class else extends false field if int is length let method new null print return static this true while"

// P4.1: the words of the list, and no names beside them.
func TestWords(t *testing.T) {
	for _, w := range strings.Fields(allWords) {
		checkTokens(t, w, Token{Kind: Word, Text: w})
		for _, near := range []string{w + "s", w + "_", w + "0", w[:len(w)-1] + strings.ToUpper(w[len(w)-1:])} {
			checkTokens(t, near, Token{Kind: Lower, Text: near})
		}
		for _, near := range []string{strings.ToUpper(w), strings.ToUpper(w[:1]) + w[1:]} {
			checkTokens(t, near, Token{Kind: Upper, Text: near})
		}
	}
	for _, s := range []string{"for", "var", "super", "main", "string", "a", "i", "cla"} {
		checkTokens(t, s, Token{Kind: Lower, Text: s})
	}
}

// P4.1: names, of all bytes that may be in them, and as long as they may be.
func TestNames(t *testing.T) {
	for _, s := range []string{"a", "z", "aZ_09az", "x__", "y0A"} {
		checkTokens(t, s, Token{Kind: Lower, Text: s})
		checkTokens(t, strings.ToUpper(s), Token{Kind: Upper, Text: strings.ToUpper(s)})
	}
	for _, first := range []string{"a", "A"} {
		long := first + strings.Repeat("_9bZ", 10)
		kind := Lower
		if first == "A" {
			kind = Upper
		}
		checkTokens(t, long[:api.MaxName], Token{Kind: kind, Text: long[:api.MaxName]})
		checkFault(t, long, Fault{api.ErrMany, at(1, 1)})
		checkFault(t, "{\n  "+long+" 99999999999999999999", Fault{api.ErrMany, at(2, 3)})
	}
	checkFault(t, strings.Repeat("class", 9), Fault{api.ErrMany, at(1, 1)})
}

// P4.1: numbers, up to 2^58.
func TestNumbers(t *testing.T) {
	for s, n := range map[string]int64{
		"0": 0, "9": 9, "10": 10, "007": 7, "1234567890": 1234567890,
		"288230376151711743": 1<<58 - 1, "288230376151711744": 1 << 58, "00288230376151711744": 1 << 58,
		strings.Repeat("0", 1000): 0, strings.Repeat("0", 1000) + "12": 12,
	} {
		checkTokens(t, s, Token{Kind: Number, Text: s, Num: n})
	}
	for _, s := range []string{
		"288230376151711745", "000288230376151711745", "288230376151711750", "300000000000000000", "999999999999999999",
		"2882303761517117440", "9223372036854775807", "9223372036854775808", "18446744073709551616", "18446744073709551617",
		"36893488147419103232", strings.Repeat("9", 5000), "1" + strings.Repeat("0", 64),
	} {
		checkFault(t, s, Fault{api.ErrNum, at(1, 1)})
		checkFault(t, "x =\n "+s+";#", Fault{api.ErrNum, at(2, 2)})
	}
	checkTokens(t, "12ab", Token{Kind: Number, Text: "12", Num: 12}, Token{Kind: Lower, Text: "ab"})
	checkTokens(t, "1.5", Token{Kind: Number, Text: "1", Num: 1}, Token{Kind: Mark, Text: "."}, Token{Kind: Number, Text: "5", Num: 5})
	checkTokens(t, "-1", Token{Kind: Mark, Text: "-"}, Token{Kind: Number, Text: "1", Num: 1})
}

const allMarks = "== != <= && || + - * / % < = ! ( ) [ ] { } ; , ."

// P4.1: each mark, alone and beside each other one: the longest is taken.
func TestMarks(t *testing.T) {
	list := strings.Fields(allMarks)
	for _, m := range list {
		checkTokens(t, m, Token{Kind: Mark, Text: m})
		for _, n := range list {
			checkTokens(t, m+" "+n, Token{Kind: Mark, Text: m}, Token{Kind: Mark, Text: n})
		}
	}
	for s, want := range map[string]string{
		"===": "== =", "====": "== ==", "=!=": "= !=", "!==": "!= =", "<==": "<= =", "<=<": "<= <", "=<": "= <", "!!": "! !", "&&&&": "&& &&", "|||": "",
		"&&&": "", "+=": "+ =", "--": "- -", "<<": "< <", "()": "( )", "/*": "/ *", "*/": "* /", "/ /": "/ /",
	} {
		got, f := All(s)
		if want == "" {
			if f != (Fault{api.ErrSign, at(1, 3)}) || len(got) != 0 {
				t.Error(s, got, f)
			}
			continue
		}
		var texts []string
		for _, x := range tokens(t, s) {
			texts = append(texts, x.Text)
		}
		if strings.Join(texts, " ") != want {
			t.Error(s, texts)
		}
	}
}

// P4.1: each byte alone: it is a blank, begins a token, or is a fault.
func TestBytes(t *testing.T) {
	for b := range 256 {
		s := string([]byte{byte(b)})
		switch {
		case strings.Contains(" \t\n\r", s):
			checkTokens(t, s)
		case strings.Contains("+-*/%<=!()[]{};,.", s):
			checkTokens(t, s, Token{Kind: Mark, Text: s})
		case '0' <= b && b <= '9':
			checkTokens(t, s, Token{Kind: Number, Text: s, Num: int64(b - '0')})
		case 'A' <= b && b <= 'Z':
			checkTokens(t, s, Token{Kind: Upper, Text: s})
		case 'a' <= b && b <= 'z':
			checkTokens(t, s, Token{Kind: Lower, Text: s})
		default:
			checkFault(t, s, Fault{api.ErrSign, at(1, 1)})
			checkFault(t, "ab\n\tcd;"+s+"x", Fault{api.ErrSign, at(2, 5)})
		}
	}
	checkTokens(t, "a_", Token{Kind: Lower, Text: "a_"})
	for _, s := range []string{">", ">=", "& &", "|x", "\"a\"", "'a'", "é", "\x00", "\v", "\f", "\u00a0", "\ufeff", "_a", "#", "\\", "?", ":", "~", "^", "@", "$", "`"} {
		checkFault(t, s, Fault{api.ErrSign, at(1, 1)})
	}
}

// P4.1: blanks and remarks stand between tokens, and are none.
func TestRemarks(t *testing.T) {
	a, b := Token{Kind: Lower, Text: "a"}, Token{Kind: Lower, Text: "b"}
	for _, s := range []string{
		"a b", "a\tb", "a\nb", "a\rb", "  a\r\n\r\n b \t", "a//\nb", "a // b\nb", "//\n//\na//// # \x00\xff é\nb//", "a\nb// a", "a//\r b\nb",
		"// &&&\na /// \"\nb", "a b//" + strings.Repeat("x", 100), "a//99999999999999999999\nb",
	} {
		checkTokens(t, s, a, b)
	}
	for _, s := range []string{"", " ", "\n", "//", "// a", "//\n", "//\n//", "/////", "\r\n\t //"} {
		checkTokens(t, s)
	}
	checkTokens(t, "a/b", a, Token{Kind: Mark, Text: "/"}, b)
	checkTokens(t, "a/ //\n/b", a, Token{Kind: Mark, Text: "/"}, Token{Kind: Mark, Text: "/"}, b)
	checkTokens(t, "a///b", a)
}

// P4.1: of several faults the first; too long a text is one ahead of all.
func TestFirstFault(t *testing.T) {
	name, num := strings.Repeat("n", 41), "288230376151711745"
	checkFault(t, "# "+name+" "+num, Fault{api.ErrSign, at(1, 1)})
	checkFault(t, name+" # "+num, Fault{api.ErrMany, at(1, 1)})
	checkFault(t, num+" "+name+" #", Fault{api.ErrNum, at(1, 1)})
	checkFault(t, "ok "+num+name, Fault{api.ErrNum, at(1, 4)})
	checkFault(t, "ok "+name+"#", Fault{api.ErrMany, at(1, 4)})
	long := strings.Repeat("ab\n ", api.MaxText/4)
	if got := len(tokens(t, long)); got != api.MaxText/4 {
		t.Error(got)
	}
	checkFault(t, long+"\n", Fault{api.ErrMany, at(1, 1)})
	checkFault(t, "\n#"+long, Fault{api.ErrMany, at(1, 1)})
	checkTokens(t, strings.Repeat(" ", api.MaxText))
	checkFault(t, strings.Repeat(" ", api.MaxText+1), Fault{api.ErrMany, at(1, 1)})
	checkTokens(t, "//"+strings.Repeat("/", api.MaxText-2))
	checkFault(t, strings.Repeat("9", api.MaxText), Fault{api.ErrNum, at(1, 1)})
	checkFault(t, strings.Repeat("z", api.MaxText), Fault{api.ErrMany, at(1, 1)})
}

// P4.2: places, and the End's behind the last byte.
func TestPlaces(t *testing.T) {
	for s, want := range map[string][]api.Pos{
		"":                   {at(1, 1)},
		" ":                  {at(1, 2)},
		"\n":                 {at(2, 1)},
		"\n\n ":              {at(3, 2)},
		"a.B1":               {at(1, 1), at(1, 2), at(1, 3), at(1, 5)},
		"a\nb":               {at(1, 1), at(2, 1), at(2, 2)},
		"a\r\nb\n":           {at(1, 1), at(2, 1), at(3, 1)},
		"a\rb":               {at(1, 1), at(1, 3), at(1, 4)},
		"\ta\t\tb":           {at(1, 2), at(1, 5), at(1, 6)},
		"// é\n\tif// x\n<=": {at(2, 2), at(3, 1), at(3, 3)},
		"x//é":               {at(1, 1), at(1, 6)},
		"//\n":               {at(2, 1)},
		"\n\n\n  12 34":      {at(4, 3), at(4, 6), at(4, 8)},
	} {
		all, f := All(s)
		var got []api.Pos
		for _, x := range all {
			got = append(got, x.At)
		}
		if f != (Fault{}) || !slices.Equal(got, want) {
			t.Errorf("%q: %v %v, not %v", s, got, f, want)
		}
	}
}

func TestExample(t *testing.T) {
	all, f := All("a.B1")
	want := []Token{{Lower, "a", 0, at(1, 1)}, {Mark, ".", 0, at(1, 2)}, {Upper, "B1", 0, at(1, 3)}, {End, "", 0, at(1, 5)}}
	if f != (Fault{}) || !slices.Equal(all, want) {
		t.Error(all, f)
	}
}

var (
	modelBlank = regexp.MustCompile(`^([ \t\n\r]|//[^\n]*)+`)
	modelToken = regexp.MustCompile(`^(?:([A-Z][A-Za-z0-9_]*)|([a-z][A-Za-z0-9_]*)|([0-9]+)|(==|!=|<=|&&|\|\||[-+*/%<=!()\[\]{};,.]))`)
)

// model says by patterns what All says.
func model(s string) ([]Token, Fault) {
	var all []Token
	for i := 0; ; {
		i += len(modelBlank.FindString(s[i:]))
		ahead := s[:i]
		tok := Token{At: at(strings.Count(ahead, "\n")+1, i-strings.LastIndex(ahead, "\n"))}
		if i == len(s) {
			return append(all, tok), Fault{}
		}
		m := modelToken.FindStringSubmatch(s[i:])
		if m == nil {
			return nil, Fault{api.ErrSign, tok.At}
		}
		tok.Text = m[0]
		switch {
		case m[4] != "":
			tok.Kind = Mark
		case m[3] != "":
			tok.Kind = Number
			n, err := strconv.ParseInt(m[3], 10, 64)
			if err != nil || n > 1<<58 {
				return nil, Fault{api.ErrNum, tok.At}
			}
			tok.Num = n
		case len(m[0]) > 40:
			return nil, Fault{api.ErrMany, tok.At}
		case slices.Contains(strings.Fields(allWords), m[0]):
			tok.Kind = Word
		case m[1] != "":
			tok.Kind = Upper
		default:
			tok.Kind = Lower
		}
		all = append(all, tok)
		i += len(m[0])
	}
}

// P4.1, P4.2: texts of pieces by chance say the same as by patterns.
func TestAgainstModel(t *testing.T) {
	r := rand.New(rand.NewSource(4))
	pieces := append(strings.Fields(allMarks+" "+allWords), " ", " ", " ", "\n", "\n", "\t", "\r", "//", "// x", "a", "B", "_", "0", "12", "288230376151711744", "name", strings.Repeat("q", 39))
	rare := []string{"#", "&", "|", ">", "é", "\x00", "288230376151711745", strings.Repeat("Q", 41)}
	for range 20000 {
		var b strings.Builder
		for range r.Intn(30) {
			if r.Intn(60) == 0 {
				b.WriteString(rare[r.Intn(len(rare))])
			} else {
				b.WriteString(pieces[r.Intn(len(pieces))])
			}
		}
		s := b.String()
		got, f := All(s)
		want, wf := model(s)
		if f != wf || !slices.Equal(got, want) {
			t.Fatalf("%q: %v %v, not %v %v", s, got, f, want, wf)
		}
	}
}
