package types_test

import (
	"slices"
	"testing"

	"kiln/api"
	"kiln/ast"
	"kiln/face"
	"kiln/hier"
	"kiln/lex"
	"kiln/types"
)

// P9.3: statements that are right.
func TestStatementsRight(t *testing.T) {
	for _, body := range []string{
		"",
		"let int q = n; let bool r = y; let A s = a; let int[] u = ns; let B[] v = bs;",
		"let A q = b; let A r = null; let A s = this; let B[] u = null; let T v = null; let T[] w = new T[1];",
		"n = 1; y = false; a = b; a = null; a = this; ns = null; ns = new int[2];",
		"a.x = 1; b.x = n; b.b = b; b.b = null; a.b = this; this.next = this; this.x = 2; b.z = y; a.list = as1; a.nums[0] = 1;",
		"ns[0] = 1; ys[n] = y; as1[0] = a; as1[0] = b; as1[0] = null; bs[0] = this; a.list[1] = b;",
		"a.get(1); A.sum(1, b); this.m(1, y, a, b, c, ns, ys, as1, bs); B.one().own();",
		"if y { } if n < 1 { print 1; } else { print 2; } if y { } else if a is B { } else { }",
		"while y { } while n < 10 { n = n + 1; while y && n == 2 { return 1; } }",
		"return 1;",
		"return n; return 2; print 3;",
		"print 1; print n; print -n; print ns.length;",
	} {
		right(t, inMethod(body))
	}
	for _, x := range []struct{ ret, what string }{
		{"int", "1"}, {"bool", "true"}, {"A", "null"}, {"A", "new A"}, {"A", "new D"}, {"int[]", "null"}, {"int[]", "new int[1]"},
		{"A[]", "null"}, {"A[]", "new A[1]"}, {"T", "this"}, {"B", "this"}, {"A", "this"},
	} {
		right(t, "class T extends B { method "+x.ret+" m() { return "+x.what+"; } }")
	}
}

// P9.3: statements that are wrong, with the error and where.
func TestStatementsWrong(t *testing.T) {
	for body, e := range map[string]api.Errno{
		// Let: the type, the expression, what fits, the local.
		"\n  @let None q = null;":            api.ErrName,
		"@let None[] q = null;":              api.ErrName,
		"@let None q = r;":                   api.ErrName,
		"@let None n = 1;":                   api.ErrName,
		"let int n = @q;":                    api.ErrName,
		"let int n = @y;":                    api.ErrType,
		"let int q =\n@true;":                api.ErrType,
		"let int q = @null;":                 api.ErrType,
		"let bool q = @1;":                   api.ErrType,
		"let bool q = @null;":                api.ErrType,
		"let B q = @a;":                      api.ErrType,
		"let C q = @a;":                      api.ErrType,
		"let D q = @b;":                      api.ErrType,
		"let T q = @b;":                      api.ErrType,
		"let A[] q = @bs;":                   api.ErrType,
		"let B[] q = @as1;":                  api.ErrType,
		"let A q = @as1;":                    api.ErrType,
		"let A[] q = @a;":                    api.ErrType,
		"let int q = @ns;":                   api.ErrType,
		"let int[] q = @n;":                  api.ErrType,
		"let int[] q = @ys;":                 api.ErrType,
		"let A q = @ns;":                     api.ErrType,
		"let bool q = 1 @+ 2;":               api.ErrType,
		"let int q = a@.b;":                  api.ErrType,
		"@let bool y = true;":                api.ErrTwice,
		"let int q = 1; let int r = q @< q;": api.ErrType,
		"let A q = b; b = @q;":               api.ErrType,
		"let A q = b; q = b; let B r = @q;":  api.ErrType,
		// Put: both expressions, then what fits.
		"@q = 1;":                   api.ErrName,
		"@q = r;":                   api.ErrName,
		"n = @q;":                   api.ErrName,
		"n = @true;":                api.ErrType,
		"n = @null;":                api.ErrType,
		"y = @1;":                   api.ErrType,
		"b = @a;":                   api.ErrType,
		"c = @a;":                   api.ErrType,
		"as1 = @bs;":                api.ErrType,
		"b@.q = 1;":                 api.ErrName,
		"b.x = @true;":              api.ErrType,
		"b@.q = r;":                 api.ErrName,
		"b.x = @r;":                 api.ErrName,
		"this.next = @b;":           api.ErrType,
		"ns[0] = @y;":               api.ErrType,
		"ns[@y] = 1;":               api.ErrType,
		"ns[@y] = q;":               api.ErrType,
		"@n[0] = 1;":                api.ErrType,
		"bs[0] = @a;":               api.ErrType,
		"ns[0] = 1 @== 2;":          api.ErrType,
		"this.next.next = this@.x;": api.ErrType,
		// Do: its expression alone.
		"a@.none();":        api.ErrName,
		"@A.get(1);":        api.ErrName,
		"a.get(@true);":     api.ErrType,
		"@None.sum(1);":     api.ErrName,
		"@A.sum(1);":        api.ErrCount,
		"@n.get();":         api.ErrType,
		"a.get(1); @q.x();": api.ErrName,
		// If and While: what is asked, Then, Else.
		"if @n { }":                            api.ErrType,
		"if @null { }":                         api.ErrType,
		"if @a { print y; }":                   api.ErrType,
		"if @q { print y; }":                   api.ErrName,
		"if 1 @+ 2 { }":                        api.ErrType,
		"if y { print @y; }":                   api.ErrType,
		"if y { print @y; } else { print q; }": api.ErrType,
		"if y { print 1; } else { print @q; print y; }":      api.ErrName,
		"if y { } else if @n { }":                            api.ErrType,
		"if y { } else if y { print @y; } else { print q; }": api.ErrType,
		"while @n { }":          api.ErrType,
		"while @q { print y; }": api.ErrName,
		"while @ys { }":         api.ErrType,
		"while y { print 1; print @y; } print q;":     api.ErrType,
		"while y { } print @q;":                       api.ErrName,
		"while y { while y { if y { return @y; } } }": api.ErrType,
		// Return: what the method returns.
		"return @y;":              api.ErrType,
		"return @null;":           api.ErrType,
		"return @this;":           api.ErrType,
		"return @ns;":             api.ErrType,
		"return @q;":              api.ErrName,
		"return 1; return @true;": api.ErrType,
		// Print: int.
		"print @y;":           api.ErrType,
		"print @null;":        api.ErrType,
		"print @ns;":          api.ErrType,
		"print @a;":           api.ErrType,
		"print @q;":           api.ErrName,
		"print 1; print @!y;": api.ErrType,
		// Statements go in order.
		"print @q; print y;": api.ErrName,
		"print @y; print q;": api.ErrType,
	} {
		wrong(t, inMethod(body), e)
	}
	for _, x := range []struct{ ret, what string }{
		{"int", "true"}, {"int", "null"}, {"bool", "1"}, {"bool", "null"}, {"D", "this"}, {"C", "this"}, {"T", "b"}, {"A", "bs"},
		{"A[]", "bs"}, {"A[]", "b"}, {"int[]", "1"}, {"int", "new int[1]"},
	} {
		wrong(t, "class T extends B { method "+x.ret+" m(B b, B[] bs) { return @"+x.what+"; } }", api.ErrType)
	}
	wrong(t, "class T extends B { method B m(B b) { return b@.self(); } }", api.ErrType)
}

// P9.1, P9.3: in each statement all expressions have their types, places of a Put, too.
func TestStatementsTypes(t *testing.T) {
	for body, want := range map[string][]string{
		"let A q = null; q = b;":                {"null: null", "q: A", "b: B"},
		"b.x = 1;":                              {"b: B", "b.x: int/A", "1: int"},
		"this.next.z = y;":                      {"this: T", "this.next: T/T", "this.next.z: bool/B", "y: bool"},
		"as1[n] = this;":                        {"as1: A[]", "n: int", "as1[n]: A", "this: T"},
		"b.self();":                             {"b: B", "b.self(): A/A"},
		"if y { print n; } else { return 1; }":  {"y: bool", "n: int", "1: int"},
		"while y { while false { print -1; } }": {"y: bool", "false: bool", "1: int", "(-1): int"},
		"if y { } else if a is C { D.get2(null, null, null, c); }": {"y: bool", "a: A", "(a is C): bool", "null: null", "null: null", "null: null", "c: C", "D.get2(null, null, null, c): int/D"},
	} {
		if got := right(t, inMethod(body)); !slices.Equal(got, want) {
			t.Errorf("%s\n%q, not %q", body, got, want)
		}
	}
}

// P9.3: trees made by hand: an Else of a While is a block of its own; what lacks expressions is refused.
func TestStatementsByHand(t *testing.T) {
	at := func(n int) api.Pos { return api.Pos{Line: 9, Col: n} }
	check := func(s ...ast.Stmt) lex.Fault {
		c := ast.Class{Name: "T", Methods: []ast.Method{{Name: "m", Ret: ast.Int(), Body: s}}}
		_, f := types.Check(hier.New(face.Of(c)), c)
		return f
	}
	yes, one := ast.Expr{Kind: ast.True, At: at(1)}, ast.Expr{Kind: ast.Num, At: at(2)}
	let := func(col int) ast.Stmt {
		return ast.Stmt{Does: ast.Let, At: at(col), Name: "q", Type: ast.Int(), E: []ast.Expr{one}}
	}
	while := ast.Stmt{Does: ast.While, E: []ast.Expr{yes}, Then: []ast.Stmt{let(3)}, Else: []ast.Stmt{let(4)}}
	if f := check(while, let(5)); f != (lex.Fault{}) {
		t.Error(f)
	}
	while.Else = append(while.Else, let(6))
	if f := check(while); f != (lex.Fault{E: api.ErrTwice, At: at(6)}) {
		t.Error(f)
	}
	for d := ast.Let; d <= ast.Print; d++ {
		s := ast.Stmt{Does: d, At: at(7), Name: "q", Type: ast.Int()}
		if f := check(s); f != (lex.Fault{E: api.ErrArg, At: at(7)}) {
			t.Error(d, f)
		}
	}
	if f := check(ast.Stmt{Does: ast.Put, At: at(8), E: []ast.Expr{one}}); f != (lex.Fault{E: api.ErrArg, At: at(8)}) {
		t.Error(f)
	}
	// Types that no text has: none is known.
	for _, x := range []ast.Type{{}, ast.Nothing(), {Array: true}, {Name: "null", Array: true}, {Name: "t"}} {
		s := let(3)
		s.Type = x
		if f := check(s); f != (lex.Fault{E: api.ErrName, At: at(3)}) {
			t.Error(x, f)
		}
	}
}
