package vm_test

import (
	"math"
	"math/big"
	"testing"

	"kiln/api"
	"kiln/ast"
	"kiln/class"
	"kiln/eval"
	"kiln/face"
	"kiln/op"
)

// tree are classes that stand above each other, whose methods tell by what they print that they ran.
func tree() []string {
	return []string{
		`class A {
			field int x;
			field bool yes;
			field A next;
			field int[] list;
			method int who() { return 1; }
			method int twice() { return this.who() * 2; }
			method A self() { return this; }
			method int add(int a, int b) { return this.x + a - b; }
			method int leftInt() { }
			method bool leftBool() { }
			method A leftObj() { }
			method int[] leftList() { }
			static method int st() { return 10; }
		}`,
		"class B extends A { field int y; field int z; method int who() { return 2; } method int own() { return this.y * 100 + this.x; } static method int st() { return 20; } }",
		"class C extends B { method int twice() { return 50; } method int add(int a, int b) { return a * b; } }",
		"class D extends A { static method int who() { return 4; } static method int[] twice(D d) { return null; } }",
		"class E { field int x; field E e; }",
	}
}

// mainOf is a class whose method go has that body; beside it there are methods that print what they are asked for.
func mainOf(body string) string {
	return "class Main { static method int go(int n, int m) { " + body + ` }
		static method int p(int x) { print x; return x; }
		static method bool q(int x, bool y) { print x; return y; }
		static method A a(int x, A a) { print x; return a; }
		static method int[] l(int x, int[] l) { print x; return l; }
		static method int three(int a, int b, int c) { return a * 100 + b * 10 + c; }
	}`
}

func TestBodies(t *testing.T) {
	for _, c := range []struct {
		body string
		want eval.Result
	}{
		// Numbers, yes and no.
		{"return 7;", num(7)},
		{"return -n + m;", num(-4)},
		{"return n * m - n / 2 - n % 2;", num(-9 + 4 + 2 - 2)},
		{"if n < m { return 1; } return 2;", num(2)},
		{"if m < n { return 1; } return 2;", num(1)},
		{"if n <= 3 { return 1; } return 2;", num(1)},
		{"if n <= 2 { return 1; } return 2;", num(2)},
		{"if n == 3 { print 1; } if n == 4 { print 2; } if n != 3 { print 3; } if n != 4 { print 4; }", num(0, 1, 4)},
		{"if true == false { print 1; } if false == false { print 2; } if true != false { print 3; }", num(0, 2, 3)},
		{"if !(n == 3) { print 1; } if !false { print 2; }", num(0, 2)},
		{"return n / 0;", trapped(api.Zero)},
		{"return n % (m + 1);", trapped(api.Zero)},
		{"print 1; return Main.p(2) / (Main.p(3) - 3) + Main.p(4);", trapped(api.Zero, 1, 2, 3)},
		// Objects.
		{"let A a = new A; a.x = n; a.next = a; return a.next.next.x;", num(3)},
		{"let A a = new A; if a.next == null { print 1; } if a.list == null { print 2; } if a.yes { print 3; } return a.x;", num(0, 1, 2)},
		{"let B b = new B; b.x = 1; b.y = 2; b.z = 3; let A a = b; a.x = 4; return b.own() * 10 + b.z;", num(2043)},
		{"let A a = new A; let A b = new A; a.x = 1; if a == b { print 1; } if a != b { print 2; } b = a; if a == b { print 3; } b.x = 5; return a.x;", num(5, 2, 3)},
		{"let A a = null; return a.x;", trapped(api.Null)},
		{"let A a = null; a.x = Main.p(1); return 2;", trapped(api.Null, 1)},
		{"if null == null { print 1; } let A a = null; let int[] l = null; if a == l { print 2; } if new A == null { print 3; }", num(0, 1, 2)},
		// Which method: the object's own class's.
		{"return new A.who() * 1000 + new B.who() * 100 + new C.who() * 10 + new D.who();", num(1221)},
		{"return new A.twice() * 1000 + new B.twice() * 100 + new C.twice() * 10 + new D.twice();", num(2000 + 400 + 500 + 2)},
		{"let A a = new C; return a.add(3, 4);", num(12)},
		{"let A a = new B; a.x = 10; return a.add(3, 4);", num(9)},
		{"return A.st() * 10000 + B.st() * 100 + C.st();", num(102020)},
		{"return Main.three(1, 2, 3);", num(123)},
		{"return Main.three(Main.p(1), Main.p(2), Main.p(3));", num(123, 1, 2, 3)},
		{"let A a = null; return a.add(Main.p(1), Main.p(2));", trapped(api.Null, 1, 2)},
		{"return new A.self().self().who();", num(1)},
		// What comes to its end.
		{"let A a = new A; if a.leftObj() == null { print 1; } if a.leftList() == null { print 2; } if a.leftBool() { print 3; } return a.leftInt();", num(0, 1, 2)},
		{"", num(0)},
		{"n = 5;", num(0)},
		// Casts.
		{"let A a = new B; return (a as B).own() + (a as A).x;", num(0)},
		{"let A a = null; if (a as C) == null { print 1; }", num(0, 1)},
		{"let A a = new B; print 1; return (a as C).own();", trapped(api.Cast, 1)},
		{"let A a = new B; return (a as D).x;", trapped(api.Cast)},
		{"let A a = new C; if a is A { print 1; } if a is B { print 2; } if a is C { print 3; } if a is D { print 4; } if a is E { print 5; }", num(0, 1, 2, 3)},
		{"let A a = null; if a is A { print 1; } if null is E { print 2; } return 3;", num(3)},
		// Arrays.
		{"let int[] l = new int[n]; l[0] = 5; l[2] = l[0] + 1; return l[0] * 100 + l[1] * 10 + l[2] + l.length * 1000;", num(3506)},
		{"let bool[] l = new bool[1]; if l[0] { print 1; } l[0] = true; if l[0] { print 2; }", num(0, 2)},
		{"let A[] l = new A[2]; if l[0] == null { print 1; } l[1] = new B; return l[1].who();", num(2, 1)},
		{"return new int[0].length;", num(0)},
		{"let int[] a = new int[1]; let int[] b = new int[1]; if a == b { print 1; } b = a; if a == b { print 2; } b[0] = 9; return a[0];", num(9, 2)},
		{"return new int[Main.p(0 - 1)][Main.p(2)];", trapped(api.Index, -1)},
		{"return new int[3][3];", trapped(api.Index)},
		{"return new int[3][-1];", trapped(api.Index)},
		{"new int[3][Main.p(3)] = Main.p(4);", trapped(api.Index, 3, 4)},
		{"new int[3][-Main.p(1)] = Main.p(4);", trapped(api.Index, 1, 4)},
		{"let int[] l = null; return l[Main.p(7)];", trapped(api.Null, 7)},
		{"let int[] l = null; l[Main.p(7)] = Main.p(8);", trapped(api.Null, 7, 8)},
		{"let int[] l = null; return l[-1];", trapped(api.Null)},
		{"let int[] l = null; return l.length;", trapped(api.Null)},
		// And, Or, If, While, Return.
		{"if Main.q(1, false) && Main.q(2, true) { print 3; } if Main.q(4, true) && Main.q(5, true) { print 6; }", num(0, 1, 4, 5, 6)},
		{"if Main.q(1, true) || Main.q(2, true) { print 3; } if Main.q(4, false) || Main.q(5, false) { print 6; }", num(0, 1, 3, 4, 5)},
		{"if n == 0 { print 1; } else if n == 3 { print 2; } else { print 3; }", num(0, 2)},
		{"while m < n { print m; m = m + 1; } return m * 10;", num(30, -1, 0, 1, 2)},
		{"while true { if n == 0 { return m; } n = n - 1; m = m * 2; }", num(-8)},
		{"print 1; return 2; print 3;", num(2, 1)},
		// Order, where several things are left and right.
		{"return Main.p(1) + Main.p(2) * Main.p(3);", num(7, 1, 2, 3)},
		{"Main.a(1, new A).x = Main.p(2); Main.l(3, new int[1])[Main.p(0)] = Main.p(5);", num(0, 1, 2, 3, 0, 5)},
		{"return Main.a(1, new C).add(Main.p(2), Main.p(3));", num(6, 1, 2, 3)},
	} {
		p := made(t, append(tree(), mainOf(c.body))...)
		if r := ran(t, p.img, "Main", "go", much(), 3, -1); !r.Same(c.want) {
			t.Errorf("%s: %v, not %v", c.body, r, c.want)
		}
		if r, _ := eval.Run(p.tab, p.list, "Main", "go", []int64{3, -1}, much()); !r.Same(c.want) {
			t.Errorf("%s means %v, not %v", c.body, r, c.want)
		}
	}
}

// P16.1: numbers have 64 bits, against numbers without ends.
func TestNumbers(t *testing.T) {
	p := made(t, `class A {
		static method int add(int a, int b) { return a + b; }
		static method int sub(int a, int b) { return a - b; }
		static method int mul(int a, int b) { return a * b; }
		static method int div(int a, int b) { return a / b; }
		static method int mod(int a, int b) { return a % b; }
		static method int neg(int a, int b) { return -a; }
		static method int less(int a, int b) { if a < b { return 1; } return 0; }
		static method int most(int a, int b) { if a <= b { return 1; } return 0; }
		static method int same(int a, int b) { if a == b { return 1; } return 0; }
		static method int other(int a, int b) { if a != b { return 1; } return 0; }
	}`)
	list := []int64{0, 1, -1, 2, -2, 3, -3, 7, -7, 10, 1 << 31, -1 << 31, 1 << 32, 1<<58 - 1, math.MaxInt64, math.MaxInt64 - 1, math.MinInt64, math.MinInt64 + 1, 0x123456789abcdef, -0x76543210fedcba9}
	low := func(x *big.Int) int64 {
		bits := new(big.Int).And(x, new(big.Int).SetUint64(math.MaxUint64))
		return int64(bits.Uint64())
	}
	yes := func(ok bool) int64 {
		if ok {
			return 1
		}
		return 0
	}
	for _, a := range list {
		for _, b := range list {
			x, y := big.NewInt(a), big.NewInt(b)
			want := map[string]eval.Result{
				"add":   num(low(new(big.Int).Add(x, y))),
				"sub":   num(low(new(big.Int).Sub(x, y))),
				"mul":   num(low(new(big.Int).Mul(x, y))),
				"div":   trapped(api.Zero),
				"mod":   trapped(api.Zero),
				"neg":   num(low(new(big.Int).Neg(x))),
				"less":  num(yes(x.Cmp(y) < 0)),
				"most":  num(yes(x.Cmp(y) <= 0)),
				"same":  num(yes(x.Cmp(y) == 0)),
				"other": num(yes(x.Cmp(y) != 0)),
			}
			if b != 0 {
				want["div"] = num(low(new(big.Int).Quo(x, y)))
				want["mod"] = num(low(new(big.Int).Rem(x, y)))
			}
			for method, w := range want {
				if r := ran(t, p.img, "A", method, much(), a, b); !r.Same(w) {
					t.Errorf("%s of %d, %d: %v, not %v", method, a, b, r, w)
				}
			}
		}
	}
}

func ins(c op.Code, a int) op.Instr { return op.Instr{Code: c, A: a} }

// hand is an image of the tree, with a class T that has one static method go of two ints, whose code is that.
func hand(t testing.TB, p class.Pool, locals, stack int, code ...op.Instr) (run func(b eval.Bounds, args ...int64) eval.Result) {
	t.Helper()
	var files []class.File
	for _, name := range []string{"A", "B", "C", "D", "E"} {
		f, _ := made(t, tree()...).img.File(name)
		files = append(files, f)
	}
	go1 := face.Sig{Name: "go", Static: true, Params: []ast.Type{ast.Int(), ast.Int()}, Ret: ast.Int()}
	f := class.File{Face: face.Face{Name: "T", Methods: []face.Sig{go1}}, Pool: p, Bodies: []class.Body{{Locals: locals, Stack: stack, Code: code}}}
	m := sound(t, append(files, f)...)
	return func(b eval.Bounds, args ...int64) eval.Result {
		t.Helper()
		return ran(t, m, "T", "go", b, args...)
	}
}

// P16.1: fields and methods that are named by a class below the one that has them.
func TestNamedBelow(t *testing.T) {
	x := class.Field{Class: "C", Var: ast.Var{Name: "x", Type: ast.Int()}}
	y := class.Field{Class: "C", Var: ast.Var{Name: "y", Type: ast.Int()}}
	own := face.Sig{Name: "own", Ret: ast.Int()}
	who := face.Sig{Name: "who", Ret: ast.Int()}
	st := face.Sig{Name: "st", Static: true, Ret: ast.Int()}
	p := class.Pool{Classes: []string{"C"}, Fields: []class.Field{x, y}, Methods: []class.Method{{Class: "C", Sig: own}, {Class: "C", Sig: st}, {Class: "D", Sig: st}, {Class: "C", Sig: who}}}
	run := hand(t, p, 3, 2,
		ins(op.New, 0), ins(op.Store, 2),
		ins(op.Local, 2), ins(op.Local, 0), ins(op.Put, 0),
		ins(op.Local, 2), ins(op.Local, 1), ins(op.Put, 1),
		ins(op.Local, 2), ins(op.Get, 1), ins(op.Print, 0),
		ins(op.Static, 1), ins(op.Print, 0),
		ins(op.Static, 2), ins(op.Print, 0),
		ins(op.Local, 2), ins(op.Call, 3), ins(op.Print, 0),
		ins(op.Local, 2), ins(op.Call, 0), ins(op.Return, 0))
	if r := run(much(), 7, 9); !r.Same(num(907, 9, 20, 10, 2)) {
		t.Error(r)
	}
}

// P16.1: a static method that is Same is found, past one of that name that isn't: D has a static who, and a twice of other parameters.
func TestFoundPast(t *testing.T) {
	who := face.Sig{Name: "who", Ret: ast.Int()}
	own := face.Sig{Name: "who", Static: true, Ret: ast.Int()}
	p := class.Pool{Classes: []string{"D"}, Methods: []class.Method{{Class: "D", Sig: who}, {Class: "D", Sig: own}, {Class: "A", Sig: who}}}
	run := hand(t, p, 2, 1,
		ins(op.New, 0), ins(op.Call, 0), ins(op.Print, 0),
		ins(op.New, 0), ins(op.Call, 2), ins(op.Print, 0),
		ins(op.Static, 1), ins(op.Return, 0))
	if r := run(much(), 0, 0); !r.Same(num(4, 1, 1)) {
		t.Error(r)
	}
}

// P16.1: words that wait on the stack, over calls and jumps; what lies beneath the word that is returned goes.
func TestWordsBeneath(t *testing.T) {
	sub := face.Sig{Name: "go", Static: true, Params: []ast.Type{ast.Int(), ast.Int()}, Ret: ast.Int()}
	p := class.Pool{Nums: []int64{1, 10}, Methods: []class.Method{{Class: "T", Sig: sub}}}
	run := hand(t, p, 2, 5,
		ins(op.Int, 1), ins(op.Int, 1), // two words that nobody takes
		ins(op.Local, 0), ins(op.Int, 0), ins(op.Less, 0), ins(op.Unless, 8),
		ins(op.Local, 1), ins(op.Return, 0),
		ins(op.Local, 0), // 8
		ins(op.Local, 0), ins(op.Int, 0), ins(op.Sub, 0), ins(op.Local, 1), ins(op.Static, 0),
		ins(op.Add, 0), ins(op.Add, 0), ins(op.Return, 0))
	// Each call but the last one adds its number, and 10.
	if r := run(much(), 4, 1000); !r.Same(num(1000 + 4 + 3 + 2 + 1 + 4*10)) {
		t.Error(r)
	}
}

// P16.1: Zero, Null, Other, Jump forth and back, Store of whatever type.
func TestByHand(t *testing.T) {
	p := class.Pool{Nums: []int64{1, 0}, Types: []ast.Type{{Name: "bool", Array: true}}, Classes: []string{"A", "E"}}
	run := hand(t, p, 4, 4,
		ins(op.Jump, 3),
		ins(op.Local, 1), ins(op.Return, 0), // 1
		ins(op.Null, 0), ins(op.Null, 0), ins(op.Other, 0), ins(op.Unless, 9), ins(op.Int, 0), ins(op.Print, 0), // 3
		ins(op.New, 0), ins(op.Store, 2), ins(op.Local, 2), ins(op.New, 1), ins(op.Other, 0), ins(op.Unless, 17), ins(op.Int, 1), ins(op.Print, 0), // 9
		ins(op.Local, 2), ins(op.Local, 2), ins(op.Other, 0), ins(op.Store, 2), ins(op.Local, 2), ins(op.Unless, 1), // 17
		ins(op.Local, 0), ins(op.Array, 0), ins(op.Store, 3), // 23
		ins(op.Local, 3), ins(op.Int, 0), ins(op.Zero, 1), ins(op.Save, 0), // 26
		ins(op.Local, 3), ins(op.Int, 1), ins(op.Load, 0), ins(op.Zero, 0), ins(op.Same, 0), ins(op.Unless, 1), // 30
		ins(op.Local, 3), ins(op.Int, 0), ins(op.Load, 0), ins(op.Zero, 1), ins(op.Same, 0), ins(op.Unless, 1), // 36
		ins(op.Local, 3), ins(op.Length, 0), ins(op.Print, 0), ins(op.Int, 0), ins(op.Store, 1), ins(op.Jump, 1)) // 42
	if r := run(much(), 2, 50); !r.Same(num(1, 1, 2)) {
		t.Error(r)
	}
	if r := run(much(), 1, 50); !r.Same(trapped(api.Index, 1)) {
		t.Error(r)
	}
}
