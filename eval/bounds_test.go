package eval_test

import (
	"math"
	"testing"

	"kiln/api"
	"kiln/eval"
)

// enough holds a run to be what it is with just so much of one bound, with more, and to be the trap with less.
func enough(t *testing.T, run func(n int) eval.Result, need int, x api.Trap, want eval.Result) {
	t.Helper()
	for _, n := range []int{need, need + 1, need + 100, math.MaxInt} {
		if r := run(n); !same(r, want) {
			t.Errorf("with %d: %v, not %v", n, r, want)
		}
	}
	for n := range need {
		r := run(n)
		if r.Trap != x || r.Num != 0 || len(r.Out) > len(want.Out) || !same(num(0, r.Out...), num(0, want.Out[:len(r.Out)]...)) {
			t.Errorf("with %d of %d: %v", n, need, r)
		}
	}
	if need > 0 {
		none := run(0)
		for _, n := range []int{-1, math.MinInt} {
			if r := run(n); !same(r, none) {
				t.Errorf("with %d: %v", n, r)
			}
		}
	}
}

// P10.4: each expression and each statement in a block is a step.
func TestSteps(t *testing.T) {
	for _, c := range []struct {
		body  string
		steps int
		want  eval.Result
	}{
		{"", 0, num(0)},
		{"return 0;", 2, num(0)},
		{"return -n;", 3, num(-3)},
		{"return n + m * 2;", 6, num(3)},
		{"print 1;", 2, num(0, 1)},
		{"print 1; print 2; print 3;", 6, num(0, 1, 2, 3)},
		{"let int a = 1;", 2, num(0)},
		{"let bool a = !true;", 3, num(0)},
		{"let A a = null;", 2, num(0)},
		{"let A a = new A as B;", 3, trapped(api.Cast)},
		{"let bool a = new A is B;", 3, num(0)},
		{"let int a = new A.x;", 3, num(0)},
		{"let int a = new int[2].length;", 4, num(0)},
		{"let int a = new int[2][1];", 5, num(0)},
		{"let bool a = null == null;", 4, num(0)},
		// The second one of And and Or, if it comes.
		{"let bool a = true && false;", 4, num(0)},
		{"let bool a = false && false;", 3, num(0)},
		{"let bool a = true || false;", 3, num(0)},
		{"let bool a = false || false;", 4, num(0)},
		// The place of a Put is no step; the expressions in it are.
		{"n = 1;", 2, num(0)},
		{"new A.x = 1;", 3, num(0)},
		{"new A.next.x = 1;", 4, trapped(api.Null)},
		{"new int[2][1] = 1;", 5, num(0)},
		{"new int[2][m + 1] = 1;", 7, num(0)},
		// Calls: the statements in them. This is a step as well.
		{"Main.three(1, 2, 3);", 5 + 1 + 9, num(0)},
		{"new A.who();", 3 + 2, num(0)},
		{"new A.twice();", 3 + 4 + 2 + 1, num(0)},
		{"new A.leftBool();", 3, num(0)},
		// If and While: an if behind an else is a statement of its own.
		{"if true { }", 2, num(0)},
		{"if true { print 1; } else { print 2; print 3; }", 4, num(0, 1)},
		{"if false { print 1; } else { print 2; print 3; }", 6, num(0, 2, 3)},
		{"if false { } else if true { } else { print 1; }", 4, num(0)},
		{"while false { print 1; }", 2, num(0)},
		{"while m < n { m = m + 1; }", 1 + 4*3 + 3*4, num(0)},
		{"while 0 < n { if n == 2 { return 7; } n = n - 1; }", 1 + 2*3 + (4 + 4) + (4 + 2), num(7)},
		// Behind a return, or a trap, there are no more.
		{"return 1; print 2;", 2, num(1)},
		{"print 1 / 0 + 3; print 2;", 5, trapped(api.Zero)},
		{"return new int[0][7];", 5, trapped(api.Index)},
	} {
		p := made(t, append(tree(), mainOf(c.body))...)
		enough(t, func(n int) eval.Result {
			return p.run(t, "Main", "go", eval.Bounds{Steps: n, Parts: 100, Deep: 10}, 3, 0)
		}, c.steps, api.Fuel, c.want)
	}
}

// P10.4: what a step does comes behind it, and what was printed ahead of Fuel stays.
func TestFuelKeeps(t *testing.T) {
	p := made(t, append(tree(), mainOf("print 1; print 2 + Main.p(3); print 1 / 0;"))...)
	out := []int64{1, 3, 5}
	// How much is printed with so many steps.
	for n, printed := range []int{0, 0, 1, 1, 1, 1, 1, 1, 1, 2, 2, 3, 3, 3, 3, 3} {
		want := trapped(api.Fuel, out[:printed]...)
		if n == 15 {
			want.Trap = api.Zero
		}
		if r := p.run(t, "Main", "go", eval.Bounds{Steps: n, Deep: 2}, 3, 0); !same(r, want) {
			t.Errorf("with %d steps: %v, not %v", n, r, want)
		}
	}
}

// P10.4: objects take 1 and their fields, arrays 1 and their parts.
func TestParts(t *testing.T) {
	for _, c := range []struct {
		body  string
		parts int
		want  eval.Result
	}{
		{"return 1;", 0, num(1)},
		{"let Main a = new Main; return 1;", 1, num(1)},
		{"let E a = new E; return 1;", 2, num(1)},
		{"let A a = new A; return 1;", 5, num(1)},
		{"let A a = new B; return 1;", 7, num(1)},
		{"let A a = new C; return 1;", 7, num(1)},
		{"let A a = new D; return 1;", 5, num(1)},
		{"let int[] a = new int[0]; return 1;", 1, num(1)},
		{"let int[] a = new int[1]; return 1;", 2, num(1)},
		{"let A[] a = new A[10]; return 1;", 11, num(1)},
		{"print 1; let int[] a = new int[3]; print 2; a = new int[4]; print 3; let E e = new E; print 4;", 11, num(0, 1, 2, 3, 4)},
		// Nothing is given back.
		{"while m < n { let E e = new E; e.x = 1; e.x = 2; m = m + 1; print m; }", 6, num(0, 1, 2, 3)},
		{"Main.a(1, new A); Main.a(2, new A);", 10, num(0, 1, 2)},
		// What isn't made takes nothing.
		{"let int[] a = new int[-5]; return 1;", 0, trapped(api.Index)},
		{"let A a = new A as B; return 1;", 5, trapped(api.Cast)},
	} {
		p := made(t, append(tree(), mainOf(c.body))...)
		enough(t, func(n int) eval.Result {
			return p.run(t, "Main", "go", eval.Bounds{Steps: 1000, Parts: n, Deep: 10}, 3, 0)
		}, c.parts, api.Heap, c.want)
	}
}

// P10.4: arrays of great numbers; where there is room for them, too.
func TestGreatArrays(t *testing.T) {
	p := made(t, "class A { static method int m(int n) { let int[] a = new int[n]; print 1; let int[] b = new int[0]; print 2; a[n - 1] = 7; return a[n - 1] + a[0] + a.length - n; } }")
	for _, c := range []struct {
		n     int64
		parts int
		want  eval.Result
	}{
		{math.MaxInt64, math.MaxInt, trapped(api.Heap)},
		{math.MaxInt64 - 1, math.MaxInt, trapped(api.Heap, 1)},
		{math.MaxInt64 - 2, math.MaxInt, num(7, 1, 2)},
		{1 << 40, 1 << 40, trapped(api.Heap)},
		{1 << 40, 1<<40 + 1, trapped(api.Heap, 1)},
		{1 << 40, 1<<40 + 2, num(7, 1, 2)},
		{math.MaxInt64, 1000, trapped(api.Heap)},
		{math.MaxInt64, 0, trapped(api.Heap)},
		{math.MaxInt64, math.MinInt, trapped(api.Heap)},
		{math.MinInt64, math.MaxInt, trapped(api.Index)},
		{-1, 0, trapped(api.Index)},
		{0, 2, trapped(api.Index, 1, 2)},
	} {
		if r := p.run(t, "A", "m", eval.Bounds{Steps: 100, Parts: c.parts, Deep: 1}, c.n); !same(r, c.want) {
			t.Errorf("%d of %d: %v", c.n, c.parts, r)
		}
	}
}

// P10.4: calls in each other; the first one is in none.
func TestDeep(t *testing.T) {
	for _, c := range []struct {
		body string
		deep int
		want eval.Result
	}{
		{"", 1, num(0)},
		{"return 5;", 1, num(5)},
		{"return Main.three(1, 2, 3);", 2, num(123)},
		{"return new A.who();", 2, num(1)},
		{"return new A.twice();", 3, num(2)},
		{"return new C.twice();", 2, num(50)},
		// A call that is left counts no more; arguments come ahead of their call.
		{"Main.p(1); Main.p(2); return Main.p(3);", 2, num(3, 1, 2, 3)},
		{"return Main.p(Main.p(Main.p(Main.p(1))));", 2, num(1, 1, 1, 1, 1)},
		{"while 0 < n { Main.p(n); n = n - 1; }", 2, num(0, 3, 2, 1)},
		{"return Main.p(4) + new A.twice();", 3, num(6, 4)},
		// Null is ahead of Deep.
		{"let A a = null; return a.who();", 1, trapped(api.Null)},
		{"let A a = null; return a.add(Main.p(1), 2);", 2, trapped(api.Null, 1)},
	} {
		p := made(t, append(tree(), mainOf(c.body))...)
		enough(t, func(n int) eval.Result {
			return p.run(t, "Main", "go", eval.Bounds{Steps: 1000, Parts: 100, Deep: n}, 3, 0)
		}, c.deep, api.Deep, c.want)
	}
	p := made(t, "class R { static method int up(int n) { print n; if n == 0 { return 0; } return R.up(n - 1) + 1; } }")
	for n := range 30 {
		var out []int64
		for i := range n + 1 {
			out = append(out, int64(n-i))
		}
		enough(t, func(deep int) eval.Result {
			return p.run(t, "R", "up", eval.Bounds{Steps: 10000, Deep: deep}, int64(n))
		}, n+1, api.Deep, num(int64(n), out...))
	}
}

// P10.4: which of the bounds is first.
func TestWhichBound(t *testing.T) {
	p := made(t, append(tree(), mainOf("print 1; let A a = new A; return a.who();"))...)
	for _, c := range []struct {
		b    eval.Bounds
		want eval.Result
	}{
		{eval.Bounds{}, trapped(api.Deep)},
		{eval.Bounds{Steps: -1, Parts: -1, Deep: -1}, trapped(api.Deep)},
		{eval.Bounds{Deep: 1}, trapped(api.Fuel)},
		{eval.Bounds{Deep: 1, Steps: 3}, trapped(api.Fuel, 1)},
		// The step of New, and of Call, is ahead of what they do.
		{eval.Bounds{Deep: 1, Steps: 4}, trapped(api.Heap, 1)},
		{eval.Bounds{Deep: 1, Steps: 4, Parts: 5}, trapped(api.Fuel, 1)},
		{eval.Bounds{Deep: 1, Steps: 6, Parts: 5}, trapped(api.Fuel, 1)},
		{eval.Bounds{Deep: 1, Steps: 7, Parts: 5}, trapped(api.Deep, 1)},
		{eval.Bounds{Deep: 2, Steps: 7, Parts: 5}, trapped(api.Fuel, 1)},
		{eval.Bounds{Deep: 2, Steps: 9, Parts: 5}, num(1, 1)},
	} {
		if r := p.run(t, "Main", "go", c.b, 3, 0); !same(r, c.want) {
			t.Errorf("%v: %v, not %v", c.b, r, c.want)
		}
	}
}

// P10.4: calls that are very deep end by a bound, and by nothing else.
func TestVeryDeep(t *testing.T) {
	p := made(t, `class R {
		static method int on(int n) { return 1 + R.on(n + 1); }
		static method int up(int n) { if n == 0 { return 0; } return 1 + R.up(n - 1); }
		static method int round() { while true { } }
	}`)
	const steps = 3000000
	if r := p.run(t, "R", "on", eval.Bounds{Steps: steps, Deep: math.MaxInt}, 0); !same(r, trapped(api.Fuel)) {
		t.Error(r)
	}
	if r := p.run(t, "R", "on", eval.Bounds{Steps: math.MaxInt, Deep: 500000}, 0); !same(r, trapped(api.Deep)) {
		t.Error(r)
	}
	if r := p.run(t, "R", "up", eval.Bounds{Steps: math.MaxInt, Deep: 200001}, 200000); !same(r, num(200000)) {
		t.Error(r)
	}
	if r := p.run(t, "R", "round", eval.Bounds{Steps: steps, Deep: 1}); !same(r, trapped(api.Fuel)) {
		t.Error(r)
	}
}
