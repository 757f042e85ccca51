package vm_test

import (
	"math"
	"slices"
	"testing"

	"kiln/api"
	"kiln/ast"
	"kiln/class"
	"kiln/eval"
	"kiln/face"
	"kiln/link"
	"kiln/op"
	"kiln/vm"
)

// enough holds a run to be what it is with just so much of one bound, with more, and to be the trap with less.
func enough(t *testing.T, what string, run func(n int) eval.Result, need int, x api.Trap, want eval.Result) {
	t.Helper()
	for _, n := range []int{need, need + 1, need + 100, math.MaxInt} {
		if r := run(n); !r.Same(want) {
			t.Errorf("%s with %d: %v, not %v", what, n, r, want)
		}
	}
	for n := range need {
		r := run(n)
		if r.Trap != x || r.Num != 0 || len(r.Out) > len(want.Out) || !slices.Equal(r.Out, want.Out[:len(r.Out)]) {
			t.Errorf("%s with %d of %d: %v", what, n, need, r)
		}
	}
	if need > 0 {
		for _, n := range []int{-1, math.MinInt} {
			if r := run(n); !r.Same(run(0)) {
				t.Errorf("%s with %d: %v", what, n, r)
			}
		}
	}
}

// P16.2: each instruction is a step.
func TestSteps(t *testing.T) {
	for _, c := range []struct {
		body  string
		steps int
		want  eval.Result
	}{
		{"", 2, num(0)},
		{"return 0;", 2, num(0)},
		{"return n + m * 2;", 6, num(1)},
		{"print 1; print 2;", 6, num(0, 1, 2)},
		{"let bool a = !true;", 5, num(0)},
		{"if n != m { print 1; }", 4 + 1 + 2 + 1 + 2, num(0, 1)},
		{"if n == m { print 1; }", 3 + 1 + 2, num(0)},
		{"if n == m { print 1; } else { print 2; }", 3 + 1 + 2 + 2, num(0, 2)},
		{"let A a = new A; a.x = 1; return a.x;", 2 + 3 + 3, num(1)},
		{"let A a = null; return a.x;", 2 + 2, trapped(api.Null)},
		{"let int[] l = new int[2]; l[1] = 7; return l[1] + l.length;", 3 + 4 + 7, num(9)},
		{"return new int[2][2];", 4, trapped(api.Index)},
		{"new int[2][2] = 1;", 5, trapped(api.Index)},
		{"return new int[-1][0];", 3, trapped(api.Index)},
		{"return 1 / 0 + 1;", 3, trapped(api.Zero)},
		{"let A a = new A as B;", 2, trapped(api.Cast)},
		{"let bool a = new A is B;", 3 + 2, num(0)},
		{"while m < n { m = m + 1; }", 4*(4+4+1) + 4 + 2, num(0)},
		{"return Main.three(1, 2, 3);", 4 + 10 + 1, num(123)},
		{"return new A.twice();", 2 + 2 + (2 + 2) + 1 + 1, num(2)},
		{"Main.p(4);", 2 + 4 + 1 + 2, num(0, 4)},
	} {
		p := made(t, append(tree(), mainOf(c.body))...)
		enough(t, c.body, func(n int) eval.Result {
			return ran(t, p.img, "Main", "go", eval.Bounds{Steps: n, Parts: 100, Deep: 10}, 3, -1)
		}, c.steps, api.Fuel, c.want)
	}
}

// P16.2: a step is ahead of what it does, and what was printed ahead of Fuel stays.
func TestFuelKeeps(t *testing.T) {
	p := made(t, append(tree(), mainOf("print 1; print 2 + Main.p(3); print 1 / 0;"))...)
	out := []int64{1, 3, 5}
	// How much is printed with so many steps.
	for n, printed := range []int{0, 0, 1, 1, 1, 1, 1, 2, 2, 2, 2, 3, 3, 3, 3} {
		want := trapped(api.Fuel, out[:printed]...)
		if n == 14 {
			want.Trap = api.Zero
		}
		if r := ran(t, p.img, "Main", "go", eval.Bounds{Steps: n, Deep: 2}, 3, 0); !r.Same(want) {
			t.Errorf("with %d steps: %v, not %v", n, r, want)
		}
	}
}

// P16.2: objects take 1 and their fields, arrays 1 and their parts, as in layer 10.
func TestParts(t *testing.T) {
	for _, c := range []struct {
		body  string
		parts int
		want  eval.Result
	}{
		{"return 1;", 0, num(1)},
		{"let Main a = new Main; return 1;", 1, num(1)},
		{"let E a = new E; return 1;", 3, num(1)},
		{"let A a = new A; return 1;", 5, num(1)},
		{"let A a = new B; return 1;", 7, num(1)},
		{"let A a = new C; return 1;", 7, num(1)},
		{"let A a = new D; return 1;", 5, num(1)},
		{"let int[] a = new int[0]; return 1;", 1, num(1)},
		{"let int[] a = new int[1]; return 1;", 2, num(1)},
		{"let A[] a = new A[10]; return 1;", 11, num(1)},
		{"print 1; let int[] a = new int[3]; print 2; a = new int[4]; print 3; let E e = new E; print 4;", 12, num(0, 1, 2, 3, 4)},
		// Nothing is given back.
		{"while m < n { let E e = new E; e.x = 1; e.x = 2; m = m + 1; print m; }", 9, num(0, 1, 2, 3)},
		{"Main.a(1, new A); Main.a(2, new A);", 10, num(0, 1, 2)},
		// What isn't made takes nothing.
		{"let int[] a = new int[-5]; return 1;", 0, trapped(api.Index)},
		{"let A a = new A as B; return 1;", 5, trapped(api.Cast)},
	} {
		p := made(t, append(tree(), mainOf(c.body))...)
		enough(t, c.body, func(n int) eval.Result {
			b := eval.Bounds{Steps: 1000, Parts: n, Deep: 10}
			r := ran(t, p.img, "Main", "go", b, 3, 0)
			if like, _ := eval.Run(p.tab, p.list, "Main", "go", []int64{3, 0}, b); !r.Same(like) {
				t.Errorf("%s with %d: %v, not %v", c.body, n, r, like)
			}
			return r
		}, c.parts, api.Heap, c.want)
	}
}

// P16.2: arrays of great numbers; where there is room for them, too.
func TestGreatArrays(t *testing.T) {
	p := made(t, "class A { static method int m(int n) { let int[] a = new int[n]; print 1; let int[] b = new int[0]; print 2; a[n - 1] = 7; return a[n - 1] + a[0] + a.length - n; } }")
	for _, c := range []struct {
		n     int64
		parts int
		want  eval.Result
	}{
		{math.MaxInt64, math.MaxInt, trapped(api.Heap)},
		{math.MaxInt64 - 1, math.MaxInt, trapped(api.Heap, 1)},
		{math.MaxInt64 - 2, math.MaxInt, num(7, 1, 2)},
		{1 << 40, 1 << 40, trapped(api.Heap)},
		{1 << 40, 1<<40 + 1, trapped(api.Heap, 1)},
		{1 << 40, 1<<40 + 2, num(7, 1, 2)},
		{math.MaxInt64, 1000, trapped(api.Heap)},
		{math.MaxInt64, 0, trapped(api.Heap)},
		{math.MaxInt64, math.MinInt, trapped(api.Heap)},
		{math.MinInt64, math.MaxInt, trapped(api.Index)},
		{-1, 0, trapped(api.Index)},
		{0, 2, trapped(api.Index, 1, 2)},
	} {
		if r := ran(t, p.img, "A", "m", eval.Bounds{Steps: 100, Parts: c.parts, Deep: 1}, c.n); !r.Same(c.want) {
			t.Errorf("%d of %d: %v", c.n, c.parts, r)
		}
	}
}

// P16.2: calls in each other, as in layer 10: the first one is in none.
func TestDeep(t *testing.T) {
	for _, c := range []struct {
		body string
		deep int
		want eval.Result
	}{
		{"", 1, num(0)},
		{"return 5;", 1, num(5)},
		{"return Main.three(1, 2, 3);", 2, num(123)},
		{"return new A.who();", 2, num(1)},
		{"return new A.twice();", 3, num(2)},
		{"return new C.twice();", 2, num(50)},
		// A call that is left counts no more; arguments come ahead of their call.
		{"Main.p(1); Main.p(2); return Main.p(3);", 2, num(3, 1, 2, 3)},
		{"return Main.p(Main.p(Main.p(Main.p(1))));", 2, num(1, 1, 1, 1, 1)},
		{"while 0 < n { Main.p(n); n = n - 1; }", 2, num(0, 3, 2, 1)},
		{"return Main.p(4) + new A.twice();", 3, num(6, 4)},
		// Null is ahead of Deep.
		{"let A a = null; return a.who();", 1, trapped(api.Null)},
		{"let A a = null; return a.add(Main.p(1), 2);", 2, trapped(api.Null, 1)},
	} {
		p := made(t, append(tree(), mainOf(c.body))...)
		enough(t, c.body, func(n int) eval.Result {
			b := eval.Bounds{Steps: 1000, Parts: 100, Deep: n}
			r := ran(t, p.img, "Main", "go", b, 3, 0)
			if like, _ := eval.Run(p.tab, p.list, "Main", "go", []int64{3, 0}, b); !r.Same(like) {
				t.Errorf("%s with %d: %v, not %v", c.body, n, r, like)
			}
			return r
		}, c.deep, api.Deep, c.want)
	}
}

// P16.2: which of the bounds is first.
func TestWhichBound(t *testing.T) {
	p := made(t, append(tree(), mainOf("print 1; let A a = new A; return a.who();"))...)
	for _, c := range []struct {
		b    eval.Bounds
		want eval.Result
	}{
		{eval.Bounds{}, trapped(api.Deep)},
		{eval.Bounds{Steps: -1, Parts: -1, Deep: -1}, trapped(api.Deep)},
		{eval.Bounds{Steps: math.MinInt, Parts: math.MinInt, Deep: math.MinInt}, trapped(api.Deep)},
		{eval.Bounds{Deep: 1}, trapped(api.Fuel)},
		{eval.Bounds{Deep: 1, Steps: 2}, trapped(api.Fuel, 1)},
		// The step of New, and of Call, is ahead of what they do.
		{eval.Bounds{Deep: 1, Steps: 3}, trapped(api.Heap, 1)},
		{eval.Bounds{Deep: 1, Steps: 3, Parts: 5}, trapped(api.Fuel, 1)},
		{eval.Bounds{Deep: 1, Steps: 5, Parts: 5}, trapped(api.Fuel, 1)},
		{eval.Bounds{Deep: 1, Steps: 6, Parts: 5}, trapped(api.Deep, 1)},
		{eval.Bounds{Deep: 2, Steps: 6, Parts: 5}, trapped(api.Fuel, 1)},
		{eval.Bounds{Deep: 2, Steps: 8, Parts: 5}, trapped(api.Fuel, 1)},
		{eval.Bounds{Deep: 2, Steps: 9, Parts: 5}, num(1, 1)},
	} {
		if r := ran(t, p.img, "Main", "go", c.b, 3, 0); !r.Same(c.want) {
			t.Errorf("%v: %v, not %v", c.b, r, c.want)
		}
	}
}

// P16.2: calls that are very deep end by a bound, and by nothing else.
func TestVeryDeep(t *testing.T) {
	p := made(t, `class R {
		static method int on(int n) { return 1 + R.on(n + 1); }
		static method int up(int n) { if n == 0 { return 0; } return 1 + R.up(n - 1); }
		static method int round() { while true { } }
	}`)
	const steps = 3000000
	for what, c := range map[string]struct {
		method string
		b      eval.Bounds
		args   []int64
		want   eval.Result
	}{
		"on":     {"on", eval.Bounds{Steps: steps, Deep: math.MaxInt}, []int64{0}, trapped(api.Fuel)},
		"deep":   {"on", eval.Bounds{Steps: math.MaxInt, Deep: 500000}, []int64{0}, trapped(api.Deep)},
		"up":     {"up", eval.Bounds{Steps: math.MaxInt, Deep: 200001}, []int64{200000}, num(200000)},
		"not up": {"up", eval.Bounds{Steps: math.MaxInt, Deep: 200000}, []int64{200000}, trapped(api.Deep)},
		"round":  {"round", eval.Bounds{Steps: steps, Deep: 1}, nil, trapped(api.Fuel)},
	} {
		if r := ran(t, p.img, "R", c.method, c.b, c.args...); !r.Same(c.want) {
			t.Error(what, r)
		}
	}
}

// Objects of many fields, of which but a few are ever put in: a list of them as long as its steps let it be.
func TestGreatObjects(t *testing.T) {
	var files []class.File
	next := class.Field{Class: "C", Var: ast.Var{Name: "a", Type: ast.Of("C")}}
	for i, name := range []string{"A", "B", "C"} {
		f := face.Face{Name: name, Super: []string{"", "A", "B"}[i]}
		for j := range 200 {
			f.Fields = append(f.Fields, ast.Var{Name: string(rune('a'+2-i)) + string(rune('0'+j/100)) + string(rune('0'+j/10%10)) + string(rune('0'+j%10)), Type: ast.Int()})
		}
		if name == "C" {
			f.Fields[0] = next.Var
		}
		files = append(files, class.File{Face: f})
	}
	c := &files[2]
	c.Face.Methods = []face.Sig{{Name: "go", Static: true, Ret: ast.Int()}}
	c.Pool = class.Pool{Classes: []string{"C"}, Fields: []class.Field{next}}
	c.Bodies = []class.Body{{Locals: 2, Stack: 2, Code: []op.Instr{
		ins(op.Null, 0), ins(op.Store, 0),
		ins(op.New, 0), ins(op.Store, 1), ins(op.Local, 1), ins(op.Local, 0), ins(op.Put, 0), ins(op.Local, 1), ins(op.Store, 0), ins(op.Jump, 2),
	}}}
	m := sound(t, files...)
	if r := ran(t, m, "C", "go", eval.Bounds{Steps: 800002, Parts: 100000 * 601, Deep: 1}); !r.Same(trapped(api.Fuel)) {
		t.Error(r)
	}
	if r := ran(t, m, "C", "go", eval.Bounds{Steps: math.MaxInt, Parts: 100000*601 - 1, Deep: 1}); !r.Same(trapped(api.Heap)) {
		t.Error(r)
	}
}

// Code with faults is nothing that Run is told of; it never panics all the same.
func TestStuck(t *testing.T) {
	p := class.Pool{Nums: []int64{1}, Classes: []string{"A"}, Types: []ast.Type{ast.Of("A")}}
	p.Fields = []class.Field{{Class: "A", Var: ast.Var{Name: "a", Type: ast.Of("A")}}}
	p.Methods = []class.Method{{Class: "A", Sig: face.Sig{Name: "m", Ret: ast.Int()}}, {Class: "A", Sig: face.Sig{Name: "low", Static: true, Ret: ast.Int()}}}
	for what, c := range map[string]struct {
		code []op.Instr
		want api.Errno
	}{
		"no word":         {[]op.Instr{ins(op.Pop, 0), ins(op.Jump, 0)}, api.ErrCode},
		"one word":        {[]op.Instr{ins(op.Int, 0), ins(op.Add, 0), ins(op.Return, 0)}, api.ErrCode},
		"nothing behind":  {[]op.Instr{ins(op.Int, 0), ins(op.Print, 0)}, api.ErrCode},
		"nothing to give": {[]op.Instr{ins(op.Return, 0)}, api.ErrCode},
		"a caller's word": {[]op.Instr{ins(op.Int, 0), ins(op.Static, 1), ins(op.Return, 0)}, api.ErrCode},
		"an array's m":    {[]op.Instr{ins(op.Int, 0), ins(op.Array, 0), ins(op.Call, 0), ins(op.Return, 0)}, api.ErrCode},
		"an array's a":    {[]op.Instr{ins(op.Int, 0), ins(op.Array, 0), ins(op.Get, 0), ins(op.Return, 0)}, api.OK},
		"a number's m":    {[]op.Instr{ins(op.Int, 0), ins(op.Call, 0), ins(op.Return, 0)}, api.OK},
		"an object's 1":   {[]op.Instr{ins(op.New, 0), ins(op.Int, 0), ins(op.Load, 0), ins(op.Return, 0)}, api.OK},
		"an array is A":   {[]op.Instr{ins(op.Int, 0), ins(op.Array, 0), ins(op.Cast, 0), ins(op.Return, 0)}, api.OK},
	} {
		f := class.File{Face: face.Face{Name: "A", Fields: []ast.Var{{Name: "a", Type: ast.Of("A")}}, Methods: []face.Sig{{Name: "go", Static: true, Ret: ast.Int()}, p.Methods[1].Sig, p.Methods[0].Sig}}, Pool: p}
		f.Bodies = []class.Body{{Locals: 1, Stack: 3, Code: c.code}, {Code: []op.Instr{ins(op.Pop, 0), ins(op.Jump, 0)}}, {Locals: 1, Code: []op.Instr{ins(op.Jump, 0)}}}
		m, e := link.Link(f)
		if e != api.OK {
			t.Fatal(what, e)
		}
		r, e := vm.Run(m, "A", "go", nil, eval.Bounds{Steps: 1000, Parts: 100, Deep: 10})
		if e != c.want || e != api.OK && !r.Same(eval.Result{}) {
			t.Errorf("%s: %v, %v", what, r, e)
		}
	}
}
