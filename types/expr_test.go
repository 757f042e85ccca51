package types_test

import (
	"slices"
	"testing"

	"kiln/api"
	"kiln/ast"
	"kiln/face"
	"kiln/hier"
	"kiln/lex"
	"kiln/types"
)

// P9.4: each kind of expression, with the types and the owners that all in it get. (Of a let the type is what it is held against.)
func TestExpressionsRight(t *testing.T) {
	for body, want := range map[string][]string{
		"let int q = 0;":           {"0: int"},
		"let bool q = true;":       {"true: bool"},
		"let bool q = false;":      {"false: bool"},
		"let C q = null;":          {"null: null"},
		"let C[] q = null;":        {"null: null"},
		"let T q = this;":          {"this: T"},
		"let int q = n;":           {"n: int"},
		"let B[] q = bs;":          {"bs: B[]"},
		"let T q = this.next;":     {"this: T", "this.next: T/T"},
		"let bool q = this.z;":     {"this: T", "this.z: bool/B"},
		"let int q = this.x;":      {"this: T", "this.x: int/A"},
		"let int q = b.x;":         {"b: B", "b.x: int/A"},
		"let B q = a.b;":           {"a: A", "a.b: B/A"},
		"let A[] q = b.b.list;":    {"b: B", "b.b: B/A", "b.b.list: A[]/A"},
		"let C q = (this as B).c;": {"this: T", "(this as B): B", "(this as B).c: C/B"},
		// Call: of its own class, of one above; arguments that fit.
		"let int q = a.get(1);":            {"a: A", "1: int", "a.get(1): int/A"},
		"let int q = this.get(n);":         {"this: T", "n: int", "this.get(n): int/A"},
		"let A q = this.self().self();":    {"this: T", "this.self(): A/A", "this.self().self(): A/A"},
		"let bool q = this.own();":         {"this: T", "this.own(): bool/B"},
		"let A q = b.pick(a, y, ns);":      {"b: B", "a: A", "y: bool", "ns: int[]", "b.pick(a, y, ns): A/A"},
		"let A q = b.pick(this, y, null);": {"b: B", "this: T", "y: bool", "null: null", "b.pick(this, y, null): A/A"},
		"let int q = this.m(n, y, a, b, c, ns, ys, as1, bs);": {"this: T", "n: int", "y: bool", "a: A", "b: B", "c: C", "ns: int[]", "ys: bool[]", "as1: A[]", "bs: B[]",
			"this.m(n, y, a, b, c, ns, ys, as1, bs): int/T"},
		// Static: likewise.
		"let int q = A.sum(1, b);":              {"1: int", "b: B", "A.sum(1, b): int/A"},
		"let int q = D.sum(1, null);":           {"1: int", "null: null", "D.sum(1, null): int/A"},
		"let int q = T.sum(1, this);":           {"1: int", "this: T", "T.sum(1, this): int/A"},
		"let B[] q = B.many(b, y);":             {"b: B", "y: bool", "B.many(b, y): B[]/A"},
		"let B q = T.one();":                    {"T.one(): B/B"},
		"let int q = D.get2(null, this, b, c);": {"null: null", "this: T", "b: B", "c: C", "D.get2(null, this, b, c): int/D"},
		"let int q = C.twin() + b.twin();":      {"C.twin(): int/C", "b: B", "b.twin(): int/B", "(C.twin() + b.twin()): int"},
		// New, Array, Elem, Length.
		"let C q = new C;":             {"(new C): C"},
		"let A q = new T;":             {"(new T): T"},
		"let int[] q = new int[n];":    {"n: int", "new int[n]: int[]"},
		"let bool[] q = new bool[0];":  {"0: int", "new bool[0]: bool[]"},
		"let A[] q = new A[n];":        {"n: int", "new A[n]: A[]"},
		"let int q = ns[n];":           {"ns: int[]", "n: int", "ns[n]: int"},
		"let bool q = ys[ns[0]];":      {"ys: bool[]", "ns: int[]", "0: int", "ns[0]: int", "ys[ns[0]]: bool"},
		"let A q = bs[0];":             {"bs: B[]", "0: int", "bs[0]: B"},
		"let A q = bs[0].list[1];":     {"bs: B[]", "0: int", "bs[0]: B", "bs[0].list: A[]/A", "1: int", "bs[0].list[1]: A"},
		"let int q = as1.length;":      {"as1: A[]", "as1.length: int"},
		"let int q = new C[1].length;": {"1: int", "new C[1]: C[]", "new C[1].length: int"},
		// Neg, Not, And, Or.
		"let int q = -n;":         {"n: int", "(-n): int"},
		"let int q = --1;":        {"1: int", "(-1): int", "(-(-1)): int"},
		"let bool q = !y;":        {"y: bool", "(!y): bool"},
		"let bool q = y && !y;":   {"y: bool", "y: bool", "(!y): bool", "(y && (!y)): bool"},
		"let bool q = y || true;": {"y: bool", "true: bool", "(y || true): bool"},
		// As, Is: also of classes that have nothing to do with it, and of nothing.
		"let B q = a as B;":       {"a: A", "(a as B): B"},
		"let A q = b as A;":       {"b: B", "(b as A): A"},
		"let C q = a as C;":       {"a: A", "(a as C): C"},
		"let C q = null as C;":    {"null: null", "(null as C): C"},
		"let bool q = a is B;":    {"a: A", "(a is B): bool"},
		"let bool q = c is T;":    {"c: C", "(c is T): bool"},
		"let bool q = null is C;": {"null: null", "(null is C): bool"},
		// Bin.
		"let bool q = 1 == n;":       {"1: int", "n: int", "(1 == n): bool"},
		"let bool q = y != true;":    {"y: bool", "true: bool", "(y != true): bool"},
		"let bool q = a == b;":       {"a: A", "b: B", "(a == b): bool"},
		"let bool q = a != c;":       {"a: A", "c: C", "(a != c): bool"},
		"let bool q = a == null;":    {"a: A", "null: null", "(a == null): bool"},
		"let bool q = null != null;": {"null: null", "null: null", "(null != null): bool"},
		"let bool q = ns == ys;":     {"ns: int[]", "ys: bool[]", "(ns == ys): bool"},
		"let bool q = ns == ns;":     {"ns: int[]", "ns: int[]", "(ns == ns): bool"},
		"let bool q = null == as1;":  {"null: null", "as1: A[]", "(null == as1): bool"},
		"let bool q = a != bs;":      {"a: A", "bs: B[]", "(a != bs): bool"},
		"let bool q = 1 < n;":        {"1: int", "n: int", "(1 < n): bool"},
		"let bool q = 1 <= n;":       {"1: int", "n: int", "(1 <= n): bool"},
		"let int q = 1 + n;":         {"1: int", "n: int", "(1 + n): int"},
		"let int q = 1 - n;":         {"1: int", "n: int", "(1 - n): int"},
		"let int q = 1 * n;":         {"1: int", "n: int", "(1 * n): int"},
		"let int q = 1 / n;":         {"1: int", "n: int", "(1 / n): int"},
		"let int q = 1 % n;":         {"1: int", "n: int", "(1 % n): int"},
	} {
		if got := right(t, inMethod(body)); !slices.Equal(got, want) {
			t.Errorf("%s\n%q, not %q", body, got, want)
		}
	}
}

// P9.4: each kind of expression where it is wrong, with the error and where; of two faults the first one.
func TestExpressionsWrong(t *testing.T) {
	for body, e := range map[string]api.Errno{
		"print @q;": api.ErrName,
		// Get: Kids, what it is of, the name.
		"print @q.x;":       api.ErrName,
		"print @n.x;":       api.ErrType,
		"print @y.none;":    api.ErrType,
		"print @null.x;":    api.ErrType,
		"print @ns.x;":      api.ErrType,
		"print @as1.x;":     api.ErrType,
		"print a@.none;":    api.ErrName,
		"print a@.z;":       api.ErrName,
		"print b@.next;":    api.ErrName,
		"print a@.get;":     api.ErrName,
		"print b\n @.q.x;":  api.ErrName,
		"print b@.x.q;":     api.ErrType,
		"print b.b@.none;":  api.ErrName,
		"print (@n).x;":     api.ErrType,
		"print (n @+ 1).x;": api.ErrType,
		// Call: all Kids, the object, the name, how many, which.
		"print @q.get(r);":                        api.ErrName,
		"print n.get(@q);":                        api.ErrName,
		"print @n.get(1);":                        api.ErrType,
		"print @null.get(1);":                     api.ErrType,
		"print @ns.get(1);":                       api.ErrType,
		"print @y.none(true);":                    api.ErrType,
		"print a@.none(1);":                       api.ErrName,
		"print a@.none();":                        api.ErrName,
		"print a@.own();":                         api.ErrName,
		"print b@.m();":                           api.ErrName,
		"print a@.sum(1, b);":                     api.ErrName,
		"print c@.twin();":                        api.ErrName,
		"print a@.x();":                           api.ErrName,
		"print a.none(@q);":                       api.ErrName,
		"print a@.get();":                         api.ErrCount,
		"print a@.get(true, 1);":                  api.ErrCount,
		"print a@.get(1, 2);":                     api.ErrCount,
		"print b@.own(1);":                        api.ErrCount,
		"print a.get(@true);":                     api.ErrType,
		"print a.get(@null);":                     api.ErrType,
		"print a.get(a@.self());":                 api.ErrType,
		"print a.pick(@c, 1, 1);":                 api.ErrType,
		"print a.pick(b, @1, 1);":                 api.ErrType,
		"print a.pick(null, y, @ys);":             api.ErrType,
		"print a.pick(null, y, @null.x);":         api.ErrType,
		"print a.pick(c, @q, ys);":                api.ErrName,
		"print a.pick(1, 2, @r).x;":               api.ErrName,
		"print a@.pick(a, y, ns);":                api.ErrType,
		"print a.self()@.own();":                  api.ErrName,
		"this.m(n, y, b, @a, c, 1, 1, 1, 1);":     api.ErrType,
		"this.m(n, y, a, b, c, ns, ys, @bs, bs);": api.ErrType,
		// Static: Kids, the class, the name, how many, which.
		"print None.sum(@q);":           api.ErrName,
		"print @None.sum(true);":        api.ErrName,
		"print @A.none();":              api.ErrName,
		"print @A.get(1);":              api.ErrName,
		"print @A.one();":               api.ErrName,
		"print @B.twin();":              api.ErrName,
		"print @A.m();":                 api.ErrName,
		"print 1 + @A.sum();":           api.ErrCount,
		"print @A.sum(true);":           api.ErrCount,
		"print @A.sum(1, b, 1);":        api.ErrCount,
		"print @B.one(1);":              api.ErrCount,
		"print A.sum(@y, a);":           api.ErrType,
		"print A.sum(1, @a);":           api.ErrType,
		"print A.sum(1, @c);":           api.ErrType,
		"print A.sum(1, @bs);":          api.ErrType,
		"print D.get2(@b, b, a, c);":    api.ErrType,
		"print D.get2(@this, b, a, c);": api.ErrType,
		"print A.sum(y, @q);":           api.ErrName,
		"print @T.one();":               api.ErrType,
		// New.
		"let A q = @new None;": api.ErrName,
		"let C q = @new A;":    api.ErrType,
		// Array: the Kid, its type, the class.
		"ns = new int[@q];":    api.ErrName,
		"ns = new int[@y];":    api.ErrType,
		"ns = new int[@null];": api.ErrType,
		"ns = new int[@ns];":   api.ErrType,
		"ns = new None[@y];":   api.ErrType,
		"ns = @new None[1];":   api.ErrName,
		"ns = @new A[1];":      api.ErrType,
		"as1 = @new int[1];":   api.ErrType,
		"as1 = @new B[1];":     api.ErrType,
		// Elem: Kids, the array, the number.
		"print @q[r];":     api.ErrName,
		"print n[@q];":     api.ErrName,
		"print @n[y];":     api.ErrType,
		"print @a[0];":     api.ErrType,
		"print @null[0];":  api.ErrType,
		"print ns[@y];":    api.ErrType,
		"print ns[@null];": api.ErrType,
		"print ns[@ns];":   api.ErrType,
		"print ns@[0][0];": api.ErrType,
		"print ys@[0];":    api.ErrType,
		"print as1[0]@.z;": api.ErrName,
		// Length.
		"print @q.length;":      api.ErrName,
		"print @n.length;":      api.ErrType,
		"print @a.length;":      api.ErrType,
		"print @null.length;":   api.ErrType,
		"y = ns@.length;":       api.ErrType,
		"print as1@[0].length;": api.ErrType,
		// Neg, Not, And, Or.
		"print -@q;":              api.ErrName,
		"print -@y;":              api.ErrType,
		"print -@null;":           api.ErrType,
		"print -@a;":              api.ErrType,
		"y = @-1;":                api.ErrType,
		"y = !@q;":                api.ErrName,
		"y = !@1;":                api.ErrType,
		"y = !@null;":             api.ErrType,
		"print @!y;":              api.ErrType,
		"y = @n && 1;":            api.ErrType,
		"y = y && @1;":            api.ErrType,
		"y = n && @q;":            api.ErrName,
		"y = true && @null;":      api.ErrType,
		"n = y @&& y;":            api.ErrType,
		"y = @n || 1;":            api.ErrType,
		"y = y || @1;":            api.ErrType,
		"y = n || @q;":            api.ErrName,
		"n = y @|| y;":            api.ErrType,
		"y = y || y && @1 || !2;": api.ErrType,
		// As, Is: the Kid, its type, the class.
		"a = @q as None;":    api.ErrName,
		"a = @n as A;":       api.ErrType,
		"a = @n as None;":    api.ErrType,
		"a = @as1 as A;":     api.ErrType,
		"a = @y as A;":       api.ErrType,
		"a = b @as None;":    api.ErrName,
		"b = b @as A;":       api.ErrType,
		"y = a @as A;":       api.ErrType,
		"y = @q is None;":    api.ErrName,
		"y = @n is A;":       api.ErrType,
		"y = @ns is None;":   api.ErrType,
		"y = b @is None;":    api.ErrName,
		"y = null @is None;": api.ErrName,
		"a = a @is A;":       api.ErrType,
		"a = a @is A as A;":  api.ErrType,
		// Bin: Kids; of == and != at their own place, of others at the Kid's.
		"y = @q == r;":              api.ErrName,
		"y = 1 == @r;":              api.ErrName,
		"y = n @== y;":              api.ErrType,
		"y = y @!= n;":              api.ErrType,
		"y = n @== null;":           api.ErrType,
		"y = null @!= y;":           api.ErrType,
		"y = n @== ns;":             api.ErrType,
		"y = a @== n;":              api.ErrType,
		"n = 1 @== 1;":              api.ErrType,
		"n = n @!= n;":              api.ErrType,
		"y = @y < y;":               api.ErrType,
		"y = 1 < @y;":               api.ErrType,
		"y = @a <= 1;":              api.ErrType,
		"y = 1 <= @null;":           api.ErrType,
		"n = 1 @< 2;":               api.ErrType,
		"n = 1 @<= 2;":              api.ErrType,
		"y = y < @q;":               api.ErrName,
		"n = n + @true;":            api.ErrType,
		"n = @y + true;":            api.ErrType,
		"n = y - @q;":               api.ErrName,
		"n = @ns - 1;":              api.ErrType,
		"n = 1 * @null;":            api.ErrType,
		"n = 1 / @a;":               api.ErrType,
		"n = 1 % @y;":               api.ErrType,
		"y = 1 @+ 2;":               api.ErrType,
		"y = 1 @- 2;":               api.ErrType,
		"y = 1 @* 2;":               api.ErrType,
		"y = 1 @/ 2;":               api.ErrType,
		"y = 1 @% 2;":               api.ErrType,
		"n = 1 + 2 * (3 - @y) + q;": api.ErrType,
		"n = (1 @< 2) + y;":         api.ErrType,
	} {
		wrong(t, inMethod(body), e)
	}
	// The chapter's example.
	wrong(t, "class A { method int m(int x) { return x + @true; } }", api.ErrType)
}

// P9.4: in a static method there is no this; all else is there.
func TestThisInStatic(t *testing.T) {
	wrong(t, inStatic("return @this.x;"), api.ErrName)
	wrong(t, inStatic("a = @this;"), api.ErrName)
	wrong(t, inStatic("if y { while y { T.s(1, y, @this, true); } }"), api.ErrName)
	wrong(t, inStatic("if null == @this { }"), api.ErrName)
	wrong(t, inStatic("return a@.next;"), api.ErrName)
	got := right(t, inStatic("let T q = new T; return T.s(n, q.z, q.next, b);"))
	want := []string{"(new T): T", "n: int", "q: T", "q.z: bool/B", "q: T", "q.next: T/T", "b: B", "T.s(n, q.z, q.next, b): int/T"}
	if !slices.Equal(got, want) {
		t.Errorf("%q", got)
	}
}

// P9.4: what a class has twice by a name, itself and above it: static methods don't stand for others, nor others for them; the nearest one counts.
func TestOwners(t *testing.T) {
	const text = "class T extends B { static method bool get(bool a) { } method bool sum(bool a) { } method bool own() { } static method T one() { } "
	body := func(s string) string { return text + "method int m(T t) { " + s + " } }" }
	for s, want := range map[string][]string{
		"return t.get(1);":           {"t: T", "1: int", "t.get(1): int/A"},
		"return T.sum(1, t);":        {"1: int", "t: T", "T.sum(1, t): int/A"},
		"let bool q = T.get(true);":  {"true: bool", "T.get(true): bool/T"},
		"let bool q = t.sum(false);": {"t: T", "false: bool", "t.sum(false): bool/T"},
		"let bool q = t.own();":      {"t: T", "t.own(): bool/T"},
		"let T q = T.one();":         {"T.one(): T/T"},
		"let B q = B.one();":         {"B.one(): B/B"},
	} {
		if got := right(t, body(s)); !slices.Equal(got, want) {
			t.Errorf("%s\n%q, not %q", s, got, want)
		}
	}
	wrong(t, body("print @B.get(true);"), api.ErrName)
	wrong(t, body("let B b = t; print b@.sum(true);"), api.ErrName)
}

// P9.4: what lies in a class that is broken itself isn't asked here, but for what is there.
func TestBrokenOthers(t *testing.T) {
	u := parsed(t, "class U extends None { field int f; field Nope g; method Nope h() { return null; } static method int i() { return 1; } }")
	for body, e := range map[string]api.Errno{
		"return u.f + U.i();":     api.OK,
		"let U q = u; u = null;":  api.OK,
		"if u.g == u.h() { }":     api.OK,
		"u.g = u.h();":            api.OK,
		"print u.g@.x;":           api.ErrName,
		"@let Nope q = u.g;":      api.ErrName,
		"print u@.k;":             api.ErrName,
		"let A a = @u;":           api.ErrType,
		"if u.g @is Nope { }":     api.ErrName,
		"u = u.g as U; print @u;": api.ErrType,
	} {
		s, at := marked("class T { method int m(U u) { " + body + " } }")
		c := parsed(t, s)
		if _, f := types.Check(table(t, u, c), c); f != (lex.Fault{E: e, At: at}) {
			t.Error(body, f)
		}
	}
}

// tooLong is the name of a class that may be in a table, but is never Known.
const tooLong = "A2345678901234567890123456789012345678901"

// hand checks a method of a class T whose one statement is an expression made by hand.
func hand(e ast.Expr) (ast.Expr, lex.Fault) {
	c := ast.Class{Name: "T", Methods: []ast.Method{{Name: "m", Ret: ast.Int(), Body: []ast.Stmt{{Does: ast.Do, E: []ast.Expr{e}}}}, {Name: "s", Static: true, Ret: ast.Int()}}}
	long := face.Of(c)
	long.Name = tooLong
	got, f := types.Check(hier.New(face.Of(c), long), c)
	if f.E != api.OK {
		return ast.Expr{}, f
	}
	return got.Methods[0].Body[0].E[0], f
}

// Trees that no text has: none makes a panic, and none that lacks something is told as right.
func TestExpressionsByHand(t *testing.T) {
	at := api.Pos{Line: 4, Col: 2}
	lacks := lex.Fault{E: api.ErrArg, At: at}
	one := ast.Expr{Kind: ast.Num, Num: 1}
	for kind, n := range map[ast.Kind]int{ast.Get: 1, ast.Call: 1, ast.Array: 1, ast.Length: 1, ast.Neg: 1, ast.Not: 1, ast.As: 1, ast.Is: 1,
		ast.Elem: 2, ast.Bin: 2, ast.And: 2, ast.Or: 2} {
		for i := range n {
			e := ast.Expr{Kind: kind, At: at, Type: ast.Of("T"), Kids: []ast.Expr{one, one}[:i]}
			if _, f := hand(e); f != lacks {
				t.Error(kind, i, f)
			}
		}
	}
	for _, kind := range []ast.Kind{0, -1, ast.Is + 1, 1 << 40} {
		if _, f := hand(ast.Expr{Kind: kind, At: at}); f != lacks {
			t.Error(kind, f)
		}
	}
	// There is no class that isn't a Class's.
	for _, x := range []ast.Type{{}, ast.Int(), ast.Nothing(), {Name: "T", Array: true}, ast.Of(tooLong)} {
		for _, e := range []ast.Expr{
			{Kind: ast.New, At: at, Type: x}, {Kind: ast.Static, At: at, Type: x, Name: "s"},
			{Kind: ast.As, At: at, Type: x, Kids: []ast.Expr{{Kind: ast.This}}}, {Kind: ast.Is, At: at, Type: x, Kids: []ast.Expr{{Kind: ast.This}}},
		} {
			if _, f := hand(e); f != (lex.Fault{E: api.ErrName, At: at}) {
				t.Error(e.Kind, x, f)
			}
		}
	}
	for _, x := range []ast.Type{{}, ast.Nothing(), {Name: "t"}, ast.Of(tooLong)} {
		if _, f := hand(ast.Expr{Kind: ast.Array, At: at, Type: x, Kids: []ast.Expr{one}}); f != (lex.Fault{E: api.ErrName, At: at}) {
			t.Error(x, f)
		}
	}
}

// P9.1: what was said before of a class is said anew, where there is something to say.
func TestSaidAnew(t *testing.T) {
	e := ast.Expr{Kind: ast.Call, Name: "m", Of: ast.Bool(), Owner: "Z", Kids: []ast.Expr{{Kind: ast.This, Of: ast.Int()}}}
	got, f := hand(e)
	if f != (lex.Fault{}) || got.Of != ast.Int() || got.Owner != "T" || got.Kids[0].Of != ast.Of("T") {
		t.Error(got, f)
	}
	if e.Of != ast.Bool() || e.Kids[0].Of != ast.Int() {
		t.Error("turned what was handed in")
	}
}

// P9.4: trees as deep as the bound that the document names end soon.
func TestDeep(t *testing.T) {
	e := ast.Expr{Kind: ast.True, At: api.Pos{Line: 7, Col: 7}}
	for range 1 << 16 {
		e = ast.Expr{Kind: ast.Not, Kids: []ast.Expr{e}}
	}
	if got, f := hand(e); f != (lex.Fault{}) || got.Of != ast.Bool() {
		t.Error(f)
	}
	e = ast.Expr{Kind: ast.True, At: api.Pos{Line: 7, Col: 7}}
	for range 1 << 16 {
		e = ast.Expr{Kind: ast.Neg, Kids: []ast.Expr{e}}
	}
	if _, f := hand(e); f != (lex.Fault{E: api.ErrType, At: api.Pos{Line: 7, Col: 7}}) {
		t.Error(f)
	}
}
