package eval_test

import (
	"testing"

	"kiln/api"
)

// P10.3: Let, and Put of a Local.
func TestLocals(t *testing.T) {
	bodies{
		{"let int a = 4; return a;", num(4)},
		{"let int a = n; a = a + 1; a = a * 2; return a;", num(8)},
		{"n = 9; return n;", num(9)},
		{"n = m; m = 5; return n * 10 + m;", num(5)},
		{"let int a = 1; let int b = a; a = 2; return a * 10 + b;", num(21)},
		// A block puts what stood ahead of it; what is its own ends with it, and comes anew.
		{"let int a = 1; if true { a = 2; let int b = 7; } return a;", num(2)},
		{"if true { let int a = 1; } let int a = 5; return a;", num(5)},
		{"if true { let int a = 1; print a; } else { let int a = 2; print a; } let bool a = true; " + yes("", "a"), num(1, 1)},
		{"let int i = 0; while i < 3 { let int a = i * i; a = a + 1; print a; i = i + 1; }", num(0, 1, 2, 5)},
		{"let A a = new A; a = new B; a = null; a = new D; return a.who();", num(4)},
		{"let int a = Main.p(1); a = Main.p(a + 1);", num(0, 1, 2)},
		{"let int a = 1 / 0; print 1;", trapped(api.Zero)},
		{"n = 1 / 0; print 1;", trapped(api.Zero)},
	}.hold(t)
	// Locals of a call are its own, and each call has its own.
	p := made(t, `class R { static method int go(int n) {
		let int a = n * 10;
		if 0 < n { let int b = R.go(n - 1); print a; print n; return b + a; }
		return a;
	} }`)
	if r := p.run(t, "R", "go", much(), 3); !same(r, num(60, 10, 1, 20, 2, 30, 3)) {
		t.Error(r)
	}
}

// P10.3: Put of a Get: its Kid, the value, then Null; put there.
func TestPutField(t *testing.T) {
	bodies{
		{"let A a = new A; a.x = 4; a.z = true; a.x = a.x + 1; " + yes("", "a.z && a.x == 5"), num(1)},
		{"let A a = new A; a.next = new A; a.next.x = 4; return a.next.x * 10 + a.x;", num(40)},
		{"let A a = new A; a.next = new B; a.next = null; " + yes("", "a.next == null"), num(1)},
		{"let B b = new B; b.x = 1; b.y = 2; b.list = new int[2]; return b.x * 100 + b.y * 10 + b.list.length;", num(122)},
		{"Main.a(1, new A).x = Main.p(2);", num(0, 1, 2)},
		{"let A a = null; a.x = 1;", trapped(api.Null)},
		{"let A a = null; a.x = Main.p(1); print 2;", trapped(api.Null, 1)},
		{"Main.a(1, null).x = Main.p(2);", trapped(api.Null, 1, 2)},
		{"let A a = null; a.x = 1 / 0;", trapped(api.Zero)},
		{"let A a = null; a.next.x = Main.p(1);", trapped(api.Null)},
		{"let A a = new A; a.next.x = Main.p(1);", trapped(api.Null, 1)},
		// The Kid is what it was ahead of the value.
		{"let A a = new A; a.next = new A; a.next.x = Main.p(5); return a.next.x;", num(5, 5)},
	}.hold(t)
	p := made(t, `class L {
		field L next; field int x;
		method int cut(int x) { this.next = null; return x; }
		static method int go() { let L a = new L; let L b = new L; a.next = b; a.next.x = a.cut(7); return b.x; }
	}`)
	if r := p.run(t, "L", "go", much()); !same(r, num(7)) {
		t.Error(r)
	}
}

// P10.3: Put of an Elem: its Kids, the value, then Null, then Index; put there.
func TestPutPart(t *testing.T) {
	bodies{
		{"let int[] a = new int[3]; a[0] = 1; a[2] = 3; a[0] = a[0] + 4; return a[0] * 100 + a[1] * 10 + a[2];", num(503)},
		{"let A a = new A; a.list = new int[2]; a.list[1] = 6; return a.list[1];", num(6)},
		{"let A[] a = new A[2]; a[0] = new A; a[1] = a[0]; a[1].x = 5; return a[0].x;", num(5)},
		{"let int[] a = new int[4]; a[a[1]] = 3; a[a[0]] = 8; return a[3] * 10 + a[0];", num(83)},
		{"Main.s(1, new int[5])[Main.p(2)] = Main.p(3);", num(0, 1, 2, 3)},
		{"Main.s(1, null)[Main.p(2)] = Main.p(3);", trapped(api.Null, 1, 2, 3)},
		{"Main.s(1, null)[Main.p(-2)] = Main.p(3);", trapped(api.Null, 1, -2, 3)},
		{"Main.s(1, new int[2])[Main.p(2)] = Main.p(3);", trapped(api.Index, 1, 2, 3)},
		{"Main.s(1, new int[2])[Main.p(-1)] = Main.p(3);", trapped(api.Index, 1, -1, 3)},
		{"let int[] a = new int[2]; a[1] = 1; return a[1];", num(1)},
		{"let int[] a = new int[0]; a[0] = 1;", trapped(api.Index)},
		{"let int[] a = null; a[5] = 1 / 0;", trapped(api.Zero)},
		{"let int[] a = new int[1]; a[5] = 1 / 0;", trapped(api.Zero)},
		{"let int[] a = new int[1]; a[1 / 0] = Main.p(1);", trapped(api.Zero)},
		{"let A a = null; a.list[Main.p(1)] = Main.p(2);", trapped(api.Null)},
		{"let A a = new A; a.list[Main.p(1)] = Main.p(2);", trapped(api.Null, 1, 2)},
		// The array is what it was ahead of the value.
		{"let int[] a = new int[2]; let int[] b = a; a[0] = Main.p(4); a = new int[1]; return b[0] * 10 + a[0];", num(40, 4)},
	}.hold(t)
}

// P10.3: Do, Print.
func TestDoAndPrint(t *testing.T) {
	bodies{
		{"Main.p(1); Main.b(2, true); new A.who(); Main.p(3); return 4;", num(4, 1, 2, 3)},
		{"print 5; print -5; print n; print n + n * n;", num(0, 5, -5, 3, 12)},
		{"print Main.p(1) + 1;", num(0, 1, 2)},
		{"print 1; print 1 / 0; print 2;", trapped(api.Zero, 1)},
		{"Main.p(1); Main.p(2 / 0); Main.p(3);", trapped(api.Zero, 1)},
		{"let A a = null; print 1; a.who(); print 2;", trapped(api.Null, 1)},
	}.hold(t)
}

// P10.3: If and While.
func TestBranches(t *testing.T) {
	bodies{
		{"if n == 3 { print 1; } else { print 2; } print 3;", num(0, 1, 3)},
		{"if n == 4 { print 1; } else { print 2; } print 3;", num(0, 2, 3)},
		{"if n == 4 { print 1; } print 3;", num(0, 3)},
		{"if n == 1 { print 1; } else if n == 3 { print 2; } else { print 3; }", num(0, 2)},
		{"if n == 1 { print 1; } else if n == 2 { print 2; } else { print 3; }", num(0, 3)},
		{"if n == 1 { print 1; } else if n == 2 { print 2; }", num(0)},
		{"if Main.b(1, true) { } else { print 2; }", num(0, 1)},
		{"if 1 / 0 == 0 { print 1; } else { print 2; }", trapped(api.Zero)},
		{"if true { if false { print 1; } else { print 2; print 3; } print 4; }", num(0, 2, 3, 4)},
		{"while n < 3 { print 1; }", num(0)},
		{"while m < n { print m; m = m + 1; } return m;", num(3, 0, 1, 2)},
		{"while Main.b(n, 0 < n) { n = n - 1; }", num(0, 3, 2, 1, 0)},
		{"while 0 < n { m = 0; while m < n { print m; m = m + 1; } n = n - 1; }", num(0, 0, 1, 2, 0, 1, 0)},
		{"while 6 / n < 7 { print n; n = n - 1; }", trapped(api.Zero, 3, 2, 1)},
		{"while true { print n; n = n - 1; print 6 / n; }", trapped(api.Zero, 3, 3, 2, 6, 1)},
	}.hold(t)
}

// P10.3: Return ends the method, wherever it stands, and that alone.
func TestReturn(t *testing.T) {
	bodies{
		{"return 1; print 2; return 3;", num(1)},
		{"print 1; if n == 3 { print 2; return n; } print 3;", num(3, 1, 2)},
		{"while true { while true { if m == 2 { return m + 5; } m = m + 1; } }", num(7)},
		{"if n == 4 { return 1; } else { if true { return 2; } } return 3;", num(2)},
		{"return Main.p(1); print 2;", num(1, 1)},
		{"return 1 / 0;", trapped(api.Zero)},
	}.hold(t)
	p := made(t, `class R {
		static method int first(int[] a, int x) { let int i = 0; while i < a.length { if a[i] == x { return i; } i = i + 1; } return -1; }
		static method int go(int x) { let int[] a = new int[4]; a[1] = 7; a[2] = 8; a[3] = 7; print R.first(a, x) * 10 + 1 * R.first(a, 0); print 5; return R.first(a, x); }
	}`)
	for x, want := range map[int64]int64{7: 1, 8: 2, 0: 0, 9: -1} {
		if r := p.run(t, "R", "go", much(), x); !same(r, num(want, want*10, 5)) {
			t.Error(x, r)
		}
	}
}
