package eval_test

import (
	"math"
	"math/big"
	"testing"

	"kiln/api"
	"kiln/ast"
	"kiln/eval"
)

// tree is some classes that bodies of Main's go may use. Static p prints a number and is it; b, a, s and none print one and are a bool, an A, ints, nothing.
func tree() []string {
	return []string{
		`class A {
			field int x; field bool z; field A next; field int[] list;
			method int who() { return 1; }
			method int twice() { return this.who() * 2; }
			method int add(int i, int j) { return this.x + i * 10 + j; }
			method int same(A o) { if this == o { return 1; } return 0; }
			method int left(int k) { k = 5; }
			method bool leftBool() { }
			method A leftObj() { }
			method int[] leftMany() { }
			method A self() { return this; }
			static method int tag() { return 100; }
			method int mixed() { return 7; }
		}`,
		`class B extends A {
			field int y; field bool[] flags;
			method int who() { return 2; }
			static method int tag() { return 200; }
			static method int mixed() { return 8; }
		}`,
		`class C extends B { method int twice() { return 50; } method int own() { return this.x + this.y; } }`,
		`class D extends A { method int who() { return 4; } }`,
		`class E { field int x; }`,
	}
}

func mainOf(body string) string {
	return `class Main {
		static method int p(int n) { print n; return n; }
		static method bool b(int n, bool y) { print n; return y; }
		static method A a(int n, A o) { print n; return o; }
		static method int[] s(int n, int[] o) { print n; return o; }
		static method int three(int x, int y, int z) { return x * 100 + y * 10 + z; }
		static method int go(int n, int m) { ` + body + ` }
	}`
}

type bodies []struct {
	body string
	want eval.Result
}

// hold runs bodies, of 3 and 0.
func (list bodies) hold(t *testing.T) {
	t.Helper()
	for _, c := range list {
		p := made(t, append(tree(), mainOf(c.body))...)
		if r := p.run(t, "Main", "go", much(), 3, 0); !same(r, c.want) {
			t.Errorf("%s: %v, not %v", c.body, r, c.want)
		}
	}
}

// yes is a body that returns 1 if a condition holds.
func yes(ahead, condition string) string {
	return ahead + " if " + condition + " { return 1; } return 0;"
}

// P10.2: expressions that need no other one, and what wasn't put anywhere.
func TestPlain(t *testing.T) {
	bodies{
		{"return 0;", num(0)},
		{"return 288230376151711744;", num(1 << 58)},
		{yes("", "true"), num(1)},
		{yes("", "false"), num(0)},
		{yes("", "null == null"), num(1)},
		{yes("let A a = null;", "a == null"), num(1)},
		{"return n;", num(3)},
		{"return m;", num(0)},
		{"return new B.self().who();", num(2)},
		{"let B b = new B; return b.same(b) * 10 + b.same(new B);", num(10)},
		// Fields, its own and from above.
		{"let B b = new B; return b.x + b.y;", num(0)},
		{yes("let B b = new B;", "b.z"), num(0)},
		{yes("let B b = new B;", "b.next == null && b.list == null && b.flags == null"), num(1)},
		// Parts of arrays.
		{"let int[] a = new int[3]; return a[0] + a[1] + a[2];", num(0)},
		{yes("let bool[] a = new bool[2];", "a[0] || a[1]"), num(0)},
		{yes("let A[] a = new A[2];", "a[0] == null && a[1] == null"), num(1)},
		// Methods that come to their end.
		{"return new A.left(9);", num(0)},
		{yes("", "new A.leftBool()"), num(0)},
		{yes("", "new A.leftObj() == null"), num(1)},
		{yes("", "new A.leftMany() == null"), num(1)},
		{"", num(0)},
		{"print 1;", num(0, 1)},
	}.hold(t)
}

// P10.2: members of objects: fields, and the method of the object's own class.
func TestMembers(t *testing.T) {
	bodies{
		{"let A a = new A; a.x = 5; return a.x;", num(5)},
		{"let C c = new C; c.x = 5; c.y = 6; let A a = c; return a.x * 10 + c.own();", num(61)},
		{"let A a = new A; let A o = new A; a.x = 1; o.x = 2; return a.x * 10 + o.x;", num(12)},
		{"let A a = new A; let A o = a; a.x = 1; o.x = 2; return a.x;", num(2)},
		{"let A a = new A; a.next = new D; a.next.next = a; return a.next.next.next.who();", num(4)},
		// E has a field of the name that A has one of.
		{"let E e = new E; let A a = new A; e.x = 1; return a.x;", num(0)},
		{"let A a = new A; return a.who();", num(1)},
		{"let A a = new B; return a.who();", num(2)},
		{"let A a = new C; return a.who();", num(2)},
		{"let A a = new D; return a.who();", num(4)},
		{"let A a = new B; return a.twice();", num(4)},
		{"let A a = new C; return a.twice();", num(50)},
		{"let A a = new D; return a.twice();", num(8)},
		{"let A a = new A; a.x = 1000; return a.add(2, 3);", num(1023)},
		{"let A a = new C; a.x = 1000; return a.add(n, m);", num(1030)},
		// What is put into a parameter isn't put into what was handed in.
		{"new A.left(n); return n;", num(3)},
		// B's method of that name is static: an object has A's.
		{"let B b = new B; return b.mixed() * 10 + B.mixed();", num(78)},
		{"return A.tag() + B.tag() + C.tag() + D.tag();", num(100 + 200 + 200 + 100)},
		{"return Main.three(1, 2, 3);", num(123)},
		{"return Main.three(n, m, n + n);", num(306)},
	}.hold(t)
}

// P10.2: arrays.
func TestArrays(t *testing.T) {
	bodies{
		{"return new int[3].length;", num(3)},
		{"return new A[0].length;", num(0)},
		{"return new bool[n * 1000].length;", num(3000)},
		{"return new int[0 - 1].length;", trapped(api.Index)},
		{"return new A[-n].length;", trapped(api.Index)},
		{"let int[] a = new int[3]; a[0] = 5; a[2] = 7; return a[0] * 100 + a[1] * 10 + a[2];", num(507)},
		{"let int[] a = new int[3]; let int[] b = a; b[1] = 4; return a[1];", num(4)},
		{"let int[] a = new int[3]; let int[] b = new int[3]; b[1] = 4; return a[1];", num(0)},
		{"let A[] a = new A[2]; a[1] = new B; return a[1].who();", num(2)},
		{"let bool[] a = new bool[2]; a[1] = true; " + yes("", "a[1]"), num(1)},
		{"return new int[3][0];", num(0)},
		{"return new int[3][2];", num(0)},
		{"return new int[3][n];", trapped(api.Index)},
		{"return new int[3][0 - 1];", trapped(api.Index)},
		{"return new int[0][0];", trapped(api.Index)},
		{"return new int[3][4294967296];", trapped(api.Index)},
		{"return new int[3][9223372036854775 * 1000 + 807];", trapped(api.Index)},
	}.hold(t)
}

// P10.2: what is nothing, or of another class, and what is asked of it first.
func TestNothing(t *testing.T) {
	bodies{
		{"let A a = null; return a.x;", trapped(api.Null)},
		{"let A a = new A; return a.next.x;", trapped(api.Null)},
		{"return Main.a(1, null).x;", trapped(api.Null, 1)},
		{"let A a = null; return a.who();", trapped(api.Null)},
		{"let A a = null; return a.add(Main.p(1), Main.p(2));", trapped(api.Null, 1, 2)},
		{"let A a = null; return a.add(Main.p(1), 1 / 0);", trapped(api.Zero, 1)},
		{"let int[] a = null; return a.length;", trapped(api.Null)},
		{"return Main.s(1, null).length;", trapped(api.Null, 1)},
		{"let int[] a = null; return a[0];", trapped(api.Null)},
		{"let int[] a = null; return a[Main.p(1)];", trapped(api.Null, 1)},
		{"let int[] a = null; return a[0 - 1];", trapped(api.Null)},
		{"let int[] a = null; return a[1 / 0];", trapped(api.Zero)},
		{"return new int[Main.p(1)][Main.p(1)];", trapped(api.Index, 1, 1)},
		{"return new int[1 / 0].length;", trapped(api.Zero)},
	}.hold(t)
}

// P10.2: As and Is.
func TestAsIs(t *testing.T) {
	bodies{
		{"return (new B as A).who();", num(2)},
		{"let A a = new B; return (a as B).who();", num(2)},
		{"let A a = new C; a.x = 4; return (a as B).x;", num(4)},
		{yes("let A a = new C;", "a as B == a"), num(1)},
		{yes("let A a = null;", "a as B == null"), num(1)},
		{yes("", "null as E == null"), num(1)},
		{"let A a = new A; return (a as B).who();", trapped(api.Cast)},
		{"let A a = new D; return (a as B).who();", trapped(api.Cast)},
		{"let B b = new B; return (b as C).who();", trapped(api.Cast)},
		{"return (new E as A).who();", trapped(api.Cast)},
		{"return (Main.a(1, new E as A) as C).who();", trapped(api.Cast)},
		{"return (Main.a(1, new D) as C).who();", trapped(api.Cast, 1)},
		{"let A a = null; return (a as B).who();", trapped(api.Null)},
		{yes("", "new B is A"), num(1)},
		{yes("", "new B is B"), num(1)},
		{yes("", "new C is A"), num(1)},
		{yes("let A a = new C;", "a is B"), num(1)},
		{yes("let A a = new A;", "a is B"), num(0)},
		{yes("let A a = new D;", "a is B"), num(0)},
		{yes("", "new E is A"), num(0)},
		{yes("let A a = null;", "a is A"), num(0)},
		{yes("", "null is E"), num(0)},
		{yes("", "Main.a(1, null) is A"), num(0, 1)},
	}.hold(t)
}

// P10.2: == and != of all that may be the same.
func TestEquals(t *testing.T) {
	ahead := "let A a = new A; let A b = new A; let A c = a; let int[] s = new int[1]; let int[] u = new int[1]; let int[] w = s; let A[] as1 = new A[0];"
	for condition, holds := range map[string]bool{
		"n == 3": true, "n == 4": false, "n == m": false, "1 == 0": false,
		"true == true": true, "false == false": true, "true == false": false, "false == true": false,
		"a == a": true, "a == c": true, "a == b": false, "new A == new A": false, "a == null": false, "null == a": false,
		"a.next == null": true, "a.next == b.next": true, "s == s": true, "s == w": true, "s == u": false, "s == null": false,
		"a == s": false, "as1 == s": false, "a.list == b.next": true, "a.self() == c": true, "new A[0] == as1": false,
	} {
		for text, want := range map[string]bool{condition: holds, "!(" + condition + ")": !holds} {
			bodies{{yes(ahead, text), num(bit(want))}}.hold(t)
		}
	}
	for condition, holds := range map[string]bool{
		"n != 3": false, "n != 4": true, "true != true": false, "true != false": true, "a != c": false, "a != b": true,
		"a != null": true, "null != null": false, "s != w": false, "s != u": true, "a != s": true,
	} {
		bodies{{yes(ahead, condition), num(bit(holds))}}.hold(t)
	}
}

func bit(yes bool) int64 {
	if yes {
		return 1
	}
	return 0
}

// P10.2: And and Or, and when the second one comes.
func TestAndOr(t *testing.T) {
	for _, x := range []bool{false, true} {
		for _, y := range []bool{false, true} {
			a, b := "Main.b(1, "+text(x)+")", "Main.b(2, "+text(y)+")"
			both, one := num(bit(x && y), 1), num(bit(x || y), 1)
			if x {
				both.Out = []int64{1, 2}
			} else {
				one.Out = []int64{1, 2}
			}
			bodies{
				{yes("", a+" && "+b), both},
				{yes("", a+" || "+b), one},
			}.hold(t)
		}
	}
	bodies{
		{yes("", "n == 0 && 1 / 0 == 0"), num(0)},
		{yes("", "n == 3 || 1 / 0 == 0"), num(1)},
		{yes("", "n == 3 && 1 / 0 == 0"), trapped(api.Zero)},
		{yes("", "n == 0 || 1 / 0 == 0"), trapped(api.Zero)},
		{yes("", "1 / 0 == 0 && false"), trapped(api.Zero)},
		{yes("", "1 / 0 == 0 || true"), trapped(api.Zero)},
		{yes("", "false && true || Main.b(1, true)"), num(1, 1)},
		{yes("", "true || Main.b(1, true) && Main.b(2, true)"), num(1)},
		{yes("", "(true || Main.b(1, true)) && Main.b(2, true)"), num(1, 2)},
		{yes("", "!true"), num(0)},
		{yes("", "!false"), num(1)},
		{yes("", "!!(n < 4)"), num(1)},
	}.hold(t)
}

func text(yes bool) string {
	if yes {
		return "true"
	}
	return "false"
}

// P10.2: the Kids go from the left to the right, and behind a trap nothing goes any more.
func TestOrder(t *testing.T) {
	bodies{
		{"return Main.p(1) + Main.p(2) * Main.p(3);", num(7, 1, 2, 3)},
		{"return (Main.p(1) - Main.p(2)) - Main.p(3);", num(-4, 1, 2, 3)},
		{"return Main.three(Main.p(1), Main.p(2), Main.p(3));", num(123, 1, 2, 3)},
		{"return Main.a(1, new A).add(Main.p(2), Main.p(3));", num(23, 1, 2, 3)},
		{"return Main.s(1, new int[2])[Main.p(0)];", num(0, 1, 0)},
		{yes("", "Main.p(1) < Main.p(2)"), num(1, 1, 2)},
		{yes("", "Main.a(1, null) == Main.a(2, null)"), num(1, 1, 2)},
		{"return Main.p(1) / Main.p(0);", trapped(api.Zero, 1, 0)},
		{"return 1 / 0 + Main.p(2);", trapped(api.Zero)},
		{"return Main.p(1) + 1 % 0 + Main.p(2);", trapped(api.Zero, 1)},
		{"return Main.three(Main.p(1), new int[0][0], Main.p(3));", trapped(api.Index, 1)},
		{"return Main.a(1, null).next.add(Main.p(2), 0);", trapped(api.Null, 1)},
		{"let int[] s = null; return s[0] + Main.p(1) / 0;", trapped(api.Null)},
		{"return -Main.p(1 + Main.p(2));", num(-3, 2, 3)},
	}.hold(t)
}

func ends() []int64 {
	return []int64{
		math.MinInt64, math.MinInt64 + 1, math.MinInt64 + 2, math.MinInt64 / 2, -3037000500, -(1 << 32), -1 << 31, -10, -7, -3, -2, -1,
		0, 1, 2, 3, 7, 10, 1 << 31, 1 << 32, 3037000499, 3037000500, 1 << 58, 1 << 62, math.MaxInt64 - 1, math.MaxInt64,
	}
}

// P10.2: numbers of 64 bits, around their ends, held against numbers without ends.
func TestNumbers(t *testing.T) {
	p := made(t, `class N {
		static method int add(int a, int b) { return a + b; }
		static method int sub(int a, int b) { return a - b; }
		static method int mul(int a, int b) { return a * b; }
		static method int div(int a, int b) { return a / b; }
		static method int rem(int a, int b) { return a % b; }
		static method int neg(int a) { return -a; }
		static method int less(int a, int b) { if a < b { return 1; } return 0; }
		static method int most(int a, int b) { if a <= b { return 1; } return 0; }
		static method int eq(int a, int b) { if a == b { return 1; } return 0; }
		static method int ne(int a, int b) { if a != b { return 1; } return 0; }
	}`)
	hold := func(name string, want eval.Result, args ...int64) {
		t.Helper()
		if r := p.run(t, "N", name, much(), args...); !same(r, want) {
			t.Errorf("%s%v: %v, not %v", name, args, r, want)
		}
	}
	for _, a := range ends() {
		x := big.NewInt(a)
		hold("neg", num(low(new(big.Int).Neg(x))), a)
		for _, b := range ends() {
			y := big.NewInt(b)
			hold("add", num(low(new(big.Int).Add(x, y))), a, b)
			hold("sub", num(low(new(big.Int).Sub(x, y))), a, b)
			hold("mul", num(low(new(big.Int).Mul(x, y))), a, b)
			hold("less", num(bit(x.Cmp(y) < 0)), a, b)
			hold("most", num(bit(x.Cmp(y) <= 0)), a, b)
			hold("eq", num(bit(x.Cmp(y) == 0)), a, b)
			hold("ne", num(bit(x.Cmp(y) != 0)), a, b)
			if b == 0 {
				hold("div", trapped(api.Zero), a, b)
				hold("rem", trapped(api.Zero), a, b)
				continue
			}
			hold("div", num(low(new(big.Int).Quo(x, y))), a, b)
			hold("rem", num(low(new(big.Int).Rem(x, y))), a, b)
		}
	}
}

// low is the last 64 bits of a number, as one with a sign.
func low(x *big.Int) int64 {
	bits := new(big.Int).And(x, new(big.Int).SetUint64(math.MaxUint64))
	return int64(bits.Uint64())
}

// P10.2: / and % of all signs.
func TestSigns(t *testing.T) {
	bodies{
		{"print 7 / 2; print 7 % 2; print -7 / 2; print -7 % 2; print 7 / -2; print 7 % -2; print -7 / -2; print -7 % -2;", num(0, 3, 1, -3, -1, -3, 1, 3, -1)},
		{"print 1 / 2; print -1 / 2; print 1 % 2; print -1 % 2; print 0 / 5; print 0 % -5; print 6 % 3; print -6 % 3;", num(0, 0, 0, 1, -1, 0, 0, 0, 0)},
		{"return m / m;", trapped(api.Zero)},
		{"return m % m;", trapped(api.Zero)},
	}.hold(t)
}

// What no text has, but a tree may: numbers below 0, and beyond 2^58, and Kids nested as deep as the document lets.
func TestTrees(t *testing.T) {
	leaf := func(n int64) ast.Expr { return ast.Expr{Kind: ast.Num, Num: n} }
	run := func(e ast.Expr) eval.Result {
		t.Helper()
		body := []ast.Stmt{{Does: ast.Return, E: []ast.Expr{e}}}
		p := checked(t, ast.Class{Name: "A", Methods: []ast.Method{{Name: "m", Static: true, Ret: ast.Int(), Body: body}}})
		return p.run(t, "A", "m", much())
	}
	for _, n := range ends() {
		if r := run(leaf(n)); !same(r, num(n)) {
			t.Error(n, r)
		}
	}
	e := leaf(5)
	for range 60001 {
		e = ast.Expr{Kind: ast.Neg, Kids: []ast.Expr{e}}
	}
	if r := run(e); !same(r, num(-5)) {
		t.Error(r)
	}
}
