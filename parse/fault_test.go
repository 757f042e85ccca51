package parse

import (
	"strings"
	"testing"

	"kiln/api"
	"kiln/ast"
	"kiln/lex"
)

// mark stands in a test's text ahead of the token that is wrong.
const mark = "¦"

// place is where a text's mark is, and the text without it.
func place(t *testing.T, s string) (api.Pos, string) {
	t.Helper()
	ahead, behind, ok := strings.Cut(s, mark)
	if !ok || strings.Contains(behind, mark) {
		t.Fatalf("%.200q has not one mark", s)
	}
	return at(strings.Count(ahead, "\n")+1, len(ahead)-strings.LastIndex(ahead, "\n")), ahead + behind
}

// checkFault holds the fault of a text against its mark; and if the text ends there, the End can't stand there either.
func checkFault(t *testing.T, marked string, want api.Errno) {
	t.Helper()
	p, s := place(t, marked)
	c, f := Class(s)
	if f != (lex.Fault{E: want, At: p}) || !same(c, ast.Class{}) {
		t.Errorf("%.200q: %v, not %v at %v", marked, f, want, p)
	}
	ahead, _, _ := strings.Cut(marked, mark)
	if _, f := Class(ahead); f != (lex.Fault{E: api.ErrToken, At: p}) && !strings.HasPrefix(ahead, "class A {}") {
		t.Errorf("%.200q: %v, not ErrToken at %v", ahead, f, p)
	}
}

// P6.1: ErrToken of each rule of classes, at the first token at which it can't go on.
func TestWrongClasses(t *testing.T) {
	for _, s := range []string{
		// class
		"¦", " // A\n¦", "¦A", "¦{", "¦}", "¦extends A {}", "¦field int x;", "¦method int m() {}", "¦1",
		"class¦", "class ¦a {}", "class ¦{}", "class ¦class {}", "class ¦int {}", "class ¦1 {}",
		"class A¦", "class A ¦B {}", "class A ¦}", "class A ¦extend B {}", "class A ¦field int x;", "class A¦;", "class A¦(B) {}",
		"class A extends¦", "class A extends ¦b {}", "class A extends ¦{}", "class A extends ¦int {}", "class A extends B¦", "class A extends B ¦extends C {}", "class A extends B¦, C {}", "class A extends B¦[] {}",
		"class A {¦", "class A {¦{}}", "class A { ¦int x; }", "class A { ¦; }", "class A { ¦x }", "class A { ¦let int x = 1; }", "class A { ¦class B {} }", "class A { ¦return 1; }", "class A { ¦B x; }",
		"class A {} ¦class B {}", "class A {} ¦}", "class A {}¦;", "class A {} ¦1", "class A {}\n ¦A", "class A {}¦{}",
		// field
		"class A { field¦", "class A { field¦}", "class A { field ¦x; }", "class A { field ¦null x; }", "class A { field ¦static int x; }", "class A { field ¦1; }", "class A { field ¦[] x; }",
		"class A { field int¦", "class A { field int¦; }", "class A { field int ¦X; }", "class A { field int ¦length; }", "class A { field int ¦if; }", "class A { field int ¦int; }", "class A { field int ¦1; }",
		"class A { field int x¦", "class A { field int x ¦}", "class A { field int x ¦= 1; }", "class A { field int x¦, y; }", "class A { field int x¦[]; }", "class A { field int x ¦field int y; }", "class A { field int x;¦; }", "class A { field int x;¦",
		// type, base
		"class A { field int[¦", "class A { field int[¦1] x; }", "class A { field int[¦x; }", "class A { field int[]¦[] x; }", "class A { field B[¦B] x; }", "class A { field bool¦] x; }", "class A { field B¦.C x; }",
		// method
		"class A { static¦", "class A { static ¦field int x; }", "class A { static ¦static method int m() {} }", "class A { static ¦int m() {} }", "class A { static ¦}", "class A { method ¦static int m() {} }",
		"class A { method¦", "class A { method ¦m() {} }", "class A { method ¦null m() {} }", "class A { method ¦method int m() {} }", "class A { method int¦", "class A { method int ¦M() {} }", "class A { method int¦() {} }", "class A { method int ¦this() {} }",
		"class A { method int m¦", "class A { method int m ¦{} }", "class A { method int m¦; }", "class A { method int m¦[]() {} }", "class A { method int m(¦", "class A { method int m(¦,) {} }", "class A { method int m(¦x) {} }", "class A { method int m(¦1) {} }", "class A { method int m(¦(int x)) {} }",
		"class A { method int m(int¦", "class A { method int m(int¦) {} }", "class A { method int m(int ¦X) {} }", "class A { method int m(int x¦", "class A { method int m(int x ¦int y) {} }", "class A { method int m(int x¦; int y) {} }", "class A { method int m(int x,¦", "class A { method int m(int x,¦) {} }", "class A { method int m(int x, ¦y) {} }", "class A { method int m(int x, ¦, int y) {} }",
		"class A { method int m()¦", "class A { method int m()¦; }", "class A { method int m() ¦return 1; }", "class A { method int m()¦}", "class A { method int m()¦() {} }", "class A { method int m() {¦", "class A { method int m() {}¦", "class A { method int m() {}¦; }", "class A { method int m() {} ¦{} }",
	} {
		checkFault(t, s, api.ErrToken)
	}
}

// P6.1: ErrToken of each rule of statements.
func TestWrongStmts(t *testing.T) {
	for _, s := range []string{
		// block, stmt
		"¦;", "¦{ }", "¦else { }", "¦int x = 1;", "¦static", "¦field int x;", "¦method int m() {}", "¦extends", "¦)", "¦]", "¦,", "¦=", "¦length = 1;", "¦as A;", "x.m();¦;", "¦+ 1;", "¦class B {}",
		// let
		"let ¦x = 1;", "let¦;", "let ¦= 1;", "let int¦;", "let int ¦= 1;", "let int ¦X = 1;", "let int x¦;", "let int x ¦1;", "let int x ¦== 1;", "let int x¦, y = 1;", "let int x =¦;", "let int x = ¦= 1;", "let int x = 1¦}", "let int x = 1 ¦2;", "let int x = 1 ¦= 2;", "let int[¦1] x = 1;", "let int x = ¦let int y = 1;", "let int ¦this.x = 1;", "let ¦null x = 1;",
		// if, while
		"if ¦{ }", "if¦;", "if x¦;", "if x ¦x = 1;", "if x ¦return 1;", "if x ¦)", "if x ¦if y { }", "if x ¦else { }", "if (x¦{ }", "if x { } else¦;", "if x { } else ¦x = 1;", "if x { } else ¦while x { }", "if x { } else { } ¦else { }", "if x { }¦;", "if x ¦= 1 { }", "if x { } else if ¦{ }", "if x { } else if y¦;", "if x { } else ¦else", "if x { ¦else }", "if x { } x.m(); ¦else { }",
		"while ¦{ }", "while¦;", "while x¦;", "while x ¦x = 1;", "while x { } ¦else { }", "while x { }¦;", "while x ¦= 1 { }", "while x ¦while y { }",
		// return, print
		"return¦;", "return 1¦}", "return 1 ¦2;", "return x ¦= 1;", "return ¦return 1;", "return 1¦, 2;", "return ¦let", "print¦;", "print 1¦}", "print x ¦= 1;", "print 1¦, 2;", "print ¦if x { }", "print 1¦)",
		// What is put somewhere goes to a Local, a Get or an Elem.
		"1 ¦= x;", "true ¦= x;", "false ¦= x;", "null ¦= x;", "this ¦= x;", "x.m() ¦= 1;", "B.m() ¦= 1;", "new B ¦= x;", "new B[1] ¦= x;", "new int[1] ¦= x;", "x.length ¦= 1;", "-x ¦= 1;", "!x ¦= 1;", "x + y ¦= 1;", "x * y ¦= 1;", "x == y ¦= 1;", "x < y ¦= 1;", "x && y ¦= 1;", "x || y ¦= 1;", "x as B ¦= y;", "x is B ¦= y;", "(x + y) ¦= 1;", "(1) ¦= x;", "x.f[1].length ¦= 1;", "x[1].m() ¦= 1;", "-x.f ¦= 1;",
		"x =¦;", "x = 1 ¦= 2;", "x = y ¦= z;", "x = ¦= 1;", "x = 1¦}", "x = 1 ¦y = 2;", "x.f = 1¦, 2;", "x[1] = ¦{ }", "x ¦{ }",
		// A stmt without = is a Call or a Static; whatever is behind it.
		"1¦;", "true¦;", "false¦;", "null¦;", "this¦;", "x¦;", "x.f¦;", "x[1]¦;", "new B¦;", "new B[1]¦;", "new int[1]¦;", "x.length¦;", "-x¦;", "!x¦;", "x + y¦;", "x - y¦;", "x == y¦;", "x <= y¦;", "x && y¦;", "x || y¦;", "x as B¦;", "x is B¦;", "(x)¦;", "(x.f)¦;", "-x.m()¦;", "x.m() + 1¦;", "1 + x.m()¦;", "x.m() as B¦;", "x.m().f¦;", "x.m()[1]¦;", "B.m().length¦;", "!B.m()¦;", "x.m() || B.m()¦;",
		"x¦}", "x ¦y;", "x.f ¦return 1;", "x.m()¦}", "x.m() ¦x.m();", "B.m()¦, B.m();", "x.m() ¦{ }", "(x.m()¦;", "x.m()¦);", "x + 1¦", "x.m()¦",
	} {
		checkFault(t, inBody(s), api.ErrToken)
		checkFault(t, inBody("while x { if y { } else {\n x.m(); "+s), api.ErrToken)
	}
}

// P6.1: ErrToken of each rule of expressions.
func TestWrongExprs(t *testing.T) {
	for _, s := range []string{
		// prim
		"¦", "¦)", "¦]", "¦*", "¦/ 1", "¦+ 1", "¦== 1", "¦&& x", "¦. f", "¦[1]", "¦if", "¦class", "¦int", "¦bool", "¦int[1]", "¦length", "¦as B", "¦is B", "¦print 1", "¦static", "¦= x",
		"B¦", "B¦)", "B ¦+ 1", "B¦[1]", "B¦[]", "B¦()", "B ¦x", "B ¦as B", "B.¦", "B.¦C", "B.¦length", "B.¦1", "B.m¦", "B.m ¦+ 1", "B.m¦.f", "B.m¦[1]", "B.f ¦= 1", "x + B¦", "x.m(B¦)",
		"new¦", "new ¦b", "new ¦1", "new ¦[1]", "new ¦(B)", "new ¦new B", "new ¦this", "new ¦length", "new int¦", "new int¦)", "new int¦()", "new int¦.f", "new bool ¦+ 1", "new int[¦", "new int[¦]", "new int[1¦", "new int[1¦)", "new int[1¦, 2]", "new bool[¦int]",
		"new B[¦", "new B[¦]", "new B[1¦", "new B[1¦)", "new B¦()", "new B¦(1)", "new B ¦C", "new B ¦x", "new B[1] ¦x", "new B[1]¦()", "new B[¦int]", "new B.¦C", "new B.m ¦n", "new B¦]",
		"(¦", "(¦)", "(1¦", "(1¦]", "(1¦, 2)", "(1 ¦2)", "((1)¦", "((1)¦]", "(1)¦)", "(¦int) x", "(x ¦= 1)", "(x¦{",
		// args
		"x.f(¦", "x.f(¦,", "x.f(1¦", "x.f(1¦]", "x.f(1,¦", "x.f(1,¦)", "x.f(1, ¦, 2)", "x.f(1 ¦2)", "x.f(1)¦)", "x.f(¦int y)", "x.f(y ¦= 1)", "B.m(¦", "B.m(¦,)", "B.m(1¦", "B.m(1,¦)", "B.m(1¦]", "B.m(1 ¦2)", "B.m()¦()",
		// parts
		"x[¦", "x[¦]", "x[1¦", "x[1¦)", "x[1¦, 2]", "x[1 ¦2]", "x[1]¦]", "x[¦)", "x[¦int]", "x[y ¦= 1]", "x.¦", "x.¦F", "x.¦1", "x.¦.f", "x.¦(y)", "x.¦[1]", "x.¦new", "x.¦int", "x.¦this", "x.length¦()", "x.length¦(1)", "x.f ¦g", "x.f()¦()", "x.f()¦(1)",
		"x¦()", "x¦(1)", "1¦()", "x ¦y", "x ¦1", "1 ¦x", "1.¦5", "(x)¦(1)", "(x)¦y", "x ¦!y", "x ¦! = y", "x ¦new B", "x ¦true", "this¦()", "null ¦null", "x¦{}", "x ¦if y {}", "x ¦B.m()",
		// unary
		"-¦", "!¦", "-¦+ 1", "- ¦* 1", "! ¦== x", "-¦)", "!-¦if", "x as¦", "x as ¦b", "x as ¦int", "x as ¦1", "x as ¦(B)", "x as B¦[]", "x as B¦.f", "x as B¦[1]", "x is¦", "x is ¦bool", "x is ¦y", "x is B¦.m()", "x is B ¦C", "x as ¦as B", "x as ¦null",
		// prod, sum, both, expr
		"1 +¦", "1 + ¦+ 2", "1 + ¦* 2", "1 *¦", "1 * ¦/ 2", "1 %¦", "1 -¦", "x &&¦", "x && ¦&& y", "x ||¦", "x || ¦&& y", "x || ¦|| y",
		// cmp
		"1 ==¦", "1 == ¦== 2", "1 < 2 ¦< 3", "1 == 2 ¦== 3", "1 < 2 ¦== 3", "1 == 2 ¦<= 3", "1 != 2 ¦!= 3", "1 + 2 < 3 + 4 ¦< 5", "x && 1 < 2 ¦< 3", "1 < ¦< 2", "1 <= ¦= 2",
	} {
		checkFault(t, inBody("return "+s+";"), api.ErrToken)
		checkFault(t, inBody("if x { y = 1; } else if z {\n\tx.f = "+s+";"), api.ErrToken)
	}
}

// P6.1: layer 4's fault of a text comes first, even behind others.
func TestTokenFaults(t *testing.T) {
	long := strings.Repeat("n", api.MaxName+1)
	for s, e := range map[string]api.Errno{
		"¦@": api.ErrSign, "class A { ¦# }": api.ErrSign, "1 1 1\n ¦? 1": api.ErrSign, "class A {} }¦>": api.ErrSign,
		"class ¦" + long + " {}": api.ErrMany, "}\n¦" + long: api.ErrMany, "class A { field int ¦" + long + "; }": api.ErrMany,
		"¦288230376151711745": api.ErrNum, inBody("x = ¦288230376151711745;"): api.ErrNum, inBody("; ¦99999999999999999999"): api.ErrNum,
		inBody(strings.Repeat("(", 200) + "¦@"): api.ErrSign, inBody("x.m(" + strings.Repeat("1,", 300) + "¦@"): api.ErrSign,
		"¦" + strings.Repeat("x", api.MaxText+1): api.ErrMany, "¦class A {}" + strings.Repeat(" ", api.MaxText): api.ErrMany,
	} {
		p, plain := place(t, s)
		if c, f := Class(plain); f != (lex.Fault{E: e, At: p}) || !same(c, ast.Class{}) {
			t.Errorf("%.200q: %v, not %v at %v", s, f, e, p)
		}
	}
	class(t, "class A {}"+strings.Repeat(" ", api.MaxText-len("class A {}")))
}

// P6.1: names that others have already, or that nobody has, are no faults of this layer.
func TestNoFaultsHere(t *testing.T) {
	for _, s := range []string{"class A extends A { field B x; field C x; method D m(E x, F x) {} method G m() {} }", inBody("x = y; let int x = true; let int x = null; this.f = new X;"), inBody("return 1; return 2;")} {
		class(t, s)
	}
}

// P6.1: what nests (a block, an if, an expr, a unary sign) may be in 99 others; what would be in 100 is a fault, where it begins.
func TestDeep(t *testing.T) {
	for _, x := range []struct {
		first, open string
		most        int // so many times it may be opened; once more, and what is marked is wrong
		inner       string
		close, last string
	}{
		// The expr is in the block, and in those that are open.
		{"return ", "(", 98, "¦1", ")", ";"},
		{"print ", "x[", 98, "¦x", "]", ";"},
		{"let int x = ", "this.m(", 98, "¦true", ", 2)", ";"},
		{"x = ", "A.m(", 98, "¦null", ", 2)", ";"},
		{"x.f = ", "new int[", 98, "¦new A", "]", ";"},
		{"", "x[", 98, "¦A.m()", "]", "= 1;"},
		{"", "x.m(", 98, "¦this", ")", ";"},
		{"", "(", 98, "¦x.m()", ")", ";"},
		{"while ", "(", 98, "¦x", ")", "{ }"},
		{"return 1 == 2 + ", "(", 98, "¦2 * 3", " || x as A)", " && z;"},
		// In an if it is in that, too.
		{"if ", "(", 97, "¦x", ")", "{ }"},
		{"if x { } else if ", "(", 96, "¦x", ")", "{ }"},
		{"if x { print ", "(", 96, "¦x", ")", "; }"},
		{"if x { } else { print ", "(", 96, "¦x", ")", "; }"},
		// The sign is in the block, the expr, and in the signs ahead of it.
		{"return ", "-", 97, "¦-x", "", ";"},
		{"return ", "!", 97, "¦!x.f as A", "", ";"},
		{"return 1 * -2 + ", "-", 97, "¦!1", "", ";"},
		{"return x.m(", "-", 96, "¦-1", "", ");"},
		// What is in a sign's unary is in the sign.
		{"return -", "(", 97, "¦1", ")", ";"},
		{"return " + strings.Repeat("!", 50), "x[", 48, "¦1", "]", ";"},
		// The block of a while is one, the while itself is none.
		{"", "while x { ", 98, "return ¦1;", "}", ""},
		{"", "while x { ", 98, "while ¦x { }", "}", ""},
		{"", "while x { ", 97, "if ¦x { }", "}", ""},
		// An if behind an else is in the one ahead of it.
		{"", "if x { } else ", 97, "if ¦x { }", "", ""},
		{"", "if x { } else ", 97, "{ return ¦x; }", "", ""},
	} {
		text := func(n int) string {
			return inBody(x.first + strings.Repeat(x.open, n) + x.inner + strings.Repeat(x.close, n) + x.last)
		}
		_, good := place(t, text(x.most))
		class(t, good)
		checkFault(t, text(x.most+1), api.ErrDeep)
	}
}

// P6.1: the last things that may nest, and the first that may not.
func TestDeepest(t *testing.T) {
	whiles, ifs, brackets, signs := strings.Repeat("while x { ", 99), strings.Repeat("if x { ", 49), "return "+strings.Repeat("(", 98), "return "+strings.Repeat("-(", 49)
	for _, s := range []string{
		whiles + strings.Repeat("}", 99),
		ifs + "while x { } print 1;" + strings.Repeat("}", 49),
		strings.Repeat("if x { } else ", 98) + "{ }",
		brackets + "x + x.m() as A" + strings.Repeat(")", 98) + ";",
		signs + "1" + strings.Repeat(")", 49) + ";",
	} {
		class(t, inBody(s))
	}
	for _, s := range []string{
		whiles + "¦if x { }", whiles + "¦x.m();", whiles + "¦(x).m();", whiles + "¦-x", whiles + "while ¦x { }", whiles + "let int x = ¦1;",
		ifs + "if ¦x { }", ifs + "while x { ¦if x { }", ifs + "while x { } return (¦1);", ifs + "x[¦1] = 2;", ifs + "return ¦-1;",
		brackets + "(¦(1", brackets + "¦-1", brackets + "1 + ¦!x", brackets + "x[¦1]", brackets + "x.m(¦1)", brackets + "A.m(¦1)", brackets + "new A[¦1]",
		signs + "¦-1", signs + "(¦1)", signs + "1 * ¦-1",
	} {
		checkFault(t, inBody(s), api.ErrDeep)
	}
}

// P6.1: whatever nested is come back from: what stands behind it may be as deep.
func TestComeBack(t *testing.T) {
	deep := strings.Repeat("(", 98) + "x" + strings.Repeat(")", 98)
	signs := strings.Repeat("-", 98) + "x"
	ifs := strings.Repeat("if x { ", 49) + strings.Repeat("} else { }", 49)
	chain := strings.Repeat("if x { } else ", 97) + "if x { } "
	whiles := strings.Repeat("while x { ", 99) + strings.Repeat("}", 99)
	class(t, inBody("return "+deep+" + "+deep+" * "+signs+" || "+signs+";"))
	class(t, inBody(strings.Repeat(ifs+chain+whiles+"x = "+deep+"; print "+signs+";", 5)))
	class(t, inBody("x.m("+strings.Repeat(deep[1:len(deep)-1]+",", 9)+"1);"))
	class(t, inBody(strings.Repeat("if -x { } else if -(y) { x[1] = A.m(-1, !2); } while -x { }", 300)))
	class(t, strings.TrimSuffix(inBody(whiles), "}")+"method int n() {"+whiles+"return "+deep+";} }")
}

const allWords = "as bool class else extends false field if int is length let method new null print return static this true while"
const allMarks = "== != <= && || + - * / % < = ! ( ) [ ] { } ; , ."

// P6.1 (rule 2): ErrToken is named first: where no expr can begin none is too deep.
func TestTokenAheadOfDeep(t *testing.T) {
	begin := " false new null this true - ! ( x A 1 "
	for _, s := range append(strings.Fields(allWords+" "+allMarks), "x", "A", "1") {
		want := api.ErrToken
		if strings.Contains(begin, " "+s+" ") {
			want = api.ErrDeep
		}
		checkFault(t, inBody("return "+strings.Repeat("(", 99)+mark+s), want)
		checkFault(t, inBody(strings.Repeat("while x {", 99)+"print "+mark+s), want)
		checkFault(t, inBody(strings.Repeat("while x {", 99)+"while "+mark+s), want)
		if !strings.Contains(" if while let print return } ", " "+s+" ") {
			checkFault(t, inBody(strings.Repeat("while x {", 99)+mark+s), want)
		}
	}
	checkFault(t, inBody("return "+strings.Repeat("(", 98)+"x.m() + A.m(¦, 1)"), api.ErrToken)
	checkFault(t, inBody("return "+strings.Repeat("-", 98)+"¦*"), api.ErrToken)
}

// P6.1: 200 fields, methods, parameters, arguments; one more is a fault, at the token behind it.
func TestMany(t *testing.T) {
	for _, x := range []struct{ first, one, between, last string }{
		{"class A { ", "field int x;", " ", "¦}"},
		{"class A { ", "field int x;", " ", "¦method int m() { } }"},
		{"class A { field int y; ", "method int m() { }", "\n", "¦}"},
		{"class A { ", "static method int m() { return 1; }", " ", "¦field int x; }"},
		{"class A { ", "method int m(int x, int y) { }", " field int x; ", "¦}"},
		{"class A { method int m(", "int x", ", ", "¦) { } }"},
		{"class A { static method int m(", "B[] x", ",\n", "¦) { x.m(); } field int x; }"},
		{"class A { method int m() { x.m(", "1", ", ", "¦); } }"},
		{"class A { method int m() { return x.m(", "1 + 2", ", ", "¦) + 3; } }"},
		{"class A { method int m() { A.m(", "x", ", ", "¦); } }"},
		{"class A { method int m() { return A.m(", "x.m(1, 2)", ", ", "¦)[1]; } }"},
	} {
		text := func(n int) string { return x.first + strings.Repeat(x.one+x.between, n-1) + x.one + x.last }
		_, good := place(t, text(200))
		class(t, good)
		checkFault(t, text(201), api.ErrMany)
		// Whatever may stand there, it is the same fault.
		for _, next := range strings.Split("field int x; }|static method int m() { } }|method int m() { } }", "|") {
			if x.last == "¦}" {
				checkFault(t, strings.TrimSuffix(text(201), "}")+next, api.ErrMany)
			}
		}
		if strings.HasPrefix(x.last, "¦)") {
			checkFault(t, strings.Replace(text(201), mark, mark+", ", 1), api.ErrMany)
			checkFault(t, strings.Replace(text(201), mark, mark+")", 1), api.ErrMany)
		}
	}
}

// P6.1: each list has a count of its own.
func TestManyLists(t *testing.T) {
	fields, methods := strings.Repeat("field int x; ", 200), strings.Repeat("method int m() { } ", 200)
	args := "(" + strings.Repeat("1, ", 199) + "x.m(" + strings.Repeat("2, ", 199) + "3))"
	params := "(" + strings.Repeat("int x, ", 199) + "int y)"
	class(t, "class A { "+fields+methods+"}")
	class(t, "class A { "+strings.Repeat("field int x; method int m() { } ", 200)+"}")
	class(t, "class A { method int m"+params+" { return x.m"+args+".m"+args+" + A.m"+args+"; } method int n"+params+" { A.m"+args+"; } }")
	checkFault(t, "class A { "+fields+methods+"field int x; ¦}", api.ErrMany)
	checkFault(t, "class A { "+fields+methods+"method int x() { } ¦}", api.ErrMany)
	c := class(t, inBody("return x.m"+args+";"))
	if e := c.Methods[0].Body[0].E[0]; len(e.Kids) != 201 || len(e.Kids[200].Kids) != 201 {
		t.Error(len(e.Kids))
	}
	// Statements have no such bound.
	if b := body(t, strings.Repeat("x = 1;", 5000)); len(b) != 5000 {
		t.Error(len(b))
	}
}

// P6.1 (rule 2): ErrToken is named ahead of ErrMany, too; and a fault further ahead is told whatever is behind it.
func TestTokenAheadOfMany(t *testing.T) {
	fields, methods := strings.Repeat("field int x; ", 201), strings.Repeat("method int m() { } ", 201)
	args, params := strings.Repeat("1, ", 200)+"1", strings.Repeat("int x, ", 200)+"int x"
	for _, s := range append(strings.Fields(allWords+" "+allMarks), "x", "A", "1") {
		if !strings.Contains(" field static method } ", " "+s+" ") {
			checkFault(t, "class A { "+fields+mark+s, api.ErrToken)
			checkFault(t, "class A { "+methods+mark+s, api.ErrToken)
		}
		if !strings.Contains(" , ) ", " "+s+" ") {
			checkFault(t, "class A { method int m("+params+" "+mark+s, api.ErrToken)
		}
		if strings.Contains(" class if ; ] { } = x A 1 let ", " "+s+" ") {
			checkFault(t, inBody("x.m("+args+" "+mark+s), api.ErrToken)
			checkFault(t, inBody("A.m("+args+" "+mark+s), api.ErrToken)
		}
	}
	checkFault(t, "class A { "+strings.Repeat("field int x; ", 200)+"field int x ¦}", api.ErrToken)
	checkFault(t, "class A { "+strings.Repeat("method int m() { } ", 200)+"method int m() { x¦; } }", api.ErrToken)
	checkFault(t, inBody("x.m("+strings.Repeat("1, ", 200)+"¦)"), api.ErrToken)
	checkFault(t, "class A { method int m("+strings.Repeat("int x, ", 200)+"¦)", api.ErrToken)
	checkFault(t, inBody("x.m("+strings.Repeat("1, ", 200)+strings.Repeat("(", 98)+"¦1"), api.ErrDeep)
}
