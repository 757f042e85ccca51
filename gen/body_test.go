package gen_test

import (
	"strconv"
	"strings"
	"testing"

	"kiln/api"
)

// P13.2: this, the parameters, and each let behind them, whichever block it is in, and whatever names come again.
func TestLocals(t *testing.T) {
	const text = `int a, bool b) {
		let int c = a;
		if b { let int d = c; print d; let bool e = b; while e { let int f = d; d = f; } } else { let int d = 1; d = a; print d; }
		while b { let int e = c; print e; if b { print e; } else { let int f = e; print f; } }
		let int d = c;
		print d;
		c = d;
		return a; let int e = d; print e; } }`
	const want = `local 1; store 3;
		local 2; unless 18; local 3; store 4; local 4; print; local 2; store 5; local 5; unless 17; local 4; store 6; local 6; store 4; jump 10; jump 24;
		int 1; store 7; local 1; store 7; local 7; print;
		local 2; unless 40; local 3; store 8; local 8; print; local 2; unless 35; local 8; print; jump 39; local 8; store 9; local 9; print; jump 24;
		local 3; store 10; local 10; print; local 10; store 3; local 1; return; local 10; store 11; local 11; print; int 0; return`
	for _, x := range []struct {
		static string
		first  int
	}{{"", 1}, {"static ", 0}} {
		f := compiled(t, "class T { "+x.static+"method int m("+text)
		list := strings.Fields(want)
		for i, s := range list {
			// Without this all locals stand one place further down.
			if n, e := strconv.Atoi(strings.Trim(s, ";")); e == nil && (list[i-1] == "local" || list[i-1] == "store") {
				list[i] = strconv.Itoa(n-1+x.first) + ";"
			}
		}
		b := f.Bodies[0]
		if got := listing(f.Pool, b); got != strings.Join(list, " ") {
			t.Errorf("%s\n%s\n%s", x.static, got, strings.Join(list, " "))
		}
		if b.Locals != 11+x.first {
			t.Error(b.Locals)
		}
	}
}

// P13.2: each method has locals of its own.
func TestLocalsApart(t *testing.T) {
	f := compiled(t, `class T { method int a(int x, int y) { let int z = y; return z; } static method int b(int z, int y) { let int x = y; return x; }
		method T c() { return this; } static method int d() { return 1; } method int e(int y) { return y; } }`)
	for name, want := range map[string]string{
		"a": "local 2; store 3; local 3; return; int 0; return",
		"b": "local 1; store 2; local 2; return; int 0; return",
		"c": "local 0; return; null; return",
		"d": "int 1; return; int 0; return",
		"e": "local 1; return; int 0; return",
	} {
		if got := code(t, f, name); got != want {
			t.Errorf("%s: %s", name, got)
		}
	}
	for name, want := range map[string]int{"a": 4, "b": 3, "c": 1, "d": 0, "e": 2} {
		if got := body(t, f, name).Locals; got != want {
			t.Error(name, got)
		}
	}
}

// P13.2: as many locals as a method may have.
func TestMostLocals(t *testing.T) {
	params, lets := "int p0", ""
	for i := range 99 {
		params += ", int p" + strconv.Itoa(i+1)
	}
	for i := range 100 {
		lets += "{ let int q = " + strconv.Itoa(i) + "; print q; } "
	}
	lets = strings.ReplaceAll(lets, "{", "if true {")
	f := compiled(t, "class T { method int m("+params+") { "+lets+" return p99; } static method int s("+params+") { "+lets+" return p99; } }")
	m, s := f.Bodies[0], f.Bodies[1]
	if m.Locals != api.MaxMembers+1 || s.Locals != api.MaxMembers {
		t.Error(m.Locals, s.Locals)
	}
	if got := code(t, f, "m"); !strings.HasSuffix(got, "int 99; store 200; local 200; print; jump 700; local 100; return; int 0; return") {
		t.Error(got)
	}
	if got := code(t, f, "s"); !strings.HasSuffix(got, "int 99; store 199; local 199; print; jump 700; local 99; return; int 0; return") {
		t.Error(got)
	}
}

// inMethod is a class T with a body, in which there are locals of many types.
func inMethod(body string) string {
	return "class T extends B { field T next;\nmethod int m(int n, bool y, A a, B b, C c, int[] ns, bool[] ys, A[] as1, B[] bs) {\n" + body + "\n} }"
}

// P13.2: how high the stack becomes.
func TestStack(t *testing.T) {
	for text, want := range map[string]int{
		"":                                 1,
		"return 1;":                        1,
		"print n;":                         1,
		"print -n; let bool q = !y;":       1,
		"print n + 1;":                     2,
		"print 1 + 2 + 3 + 4;":             2,
		"print 1 + (2 + (3 + 4));":         4,
		"print (1 + 2) * (3 + 4);":         3,
		"print (1 + (2 + 3)) * 4;":         3,
		"return 1 * (2 - 3);":              3,
		"print 1; print 1 + 2; print 1;":   2,
		"let bool q = n != 1;":             2,
		"let bool q = null == a;":          2,
		"let bool q = y == (n < 1);":       3,
		"let A q = new B as A;":            1,
		"let bool q = null is A;":          1,
		"let int[] q = new int[n];":        1,
		"let int[] q = new int[n + 1];":    2,
		"print ns.length;":                 1,
		"print ns[1];":                     2,
		"print ns[n + 1];":                 3,
		"print ns[ns[ns[1]]];":             4,
		"print as1[1].x;":                  2,
		"print this.next.next.x;":          1,
		"n = 1;":                           1,
		"n = 1 + n;":                       2,
		"a.x = 1;":                         2,
		"a.x = n + 1;":                     3,
		"as1[1].x = 1;":                    2,
		"as1[1].x = n + n;":                3,
		"as1[n + (1 + 2)].x = 1;":          4,
		"ns[1] = 2;":                       3,
		"ns[n + 1] = 2;":                   3,
		"ns[n + (1 + 2)] = 2;":             4,
		"ns[1] = 2 + n;":                   4,
		"ns[ns[1]] = ns[2];":               4,
		"a.self();":                        1,
		"this.get(1);":                     2,
		"this.get(1 + n);":                 3,
		"a.pick(b, y, ns);":                4,
		"a.pick(b, n < 1, ns);":            4,
		"a.pick(b, y, new int[n + n]);":    5,
		"a.pick(a.pick(b, y, ns), y, ns);": 5,
		"a.pick(b, y, null).pick(a, y, ns).pick(a, y, ns);": 4,
		"A.one();":                              1,
		"A.sum(1, null);":                       2,
		"A.sum(1, A.one());":                    2,
		"A.sum(A.sum(1, b), b);":                2,
		"print 1 + A.sum(1, b);":                3,
		"let bool q = y && y;":                  1,
		"let bool q = y || y;":                  1,
		"let bool q = y && y && y && y;":        1,
		"let bool q = y && (y && (y && y));":    1,
		"let bool q = y || (y && (y || y));":    1,
		"let bool q = n < 1 && y;":              2,
		"let bool q = y && n < 1;":              2,
		"let bool q = y || n < 1 + n;":          3,
		"let bool q = n < 1 + n || y;":          3,
		"let bool q = y == (y || y);":           2,
		"let bool q = y == (n < 1 && y);":       3,
		"let bool q = y == (y && n < 1);":       3,
		"a.pick(b, y || n < n, null);":          4,
		"a.pick(b, y && y, null);":              4,
		"ys[0] = y && (y || y);":                3,
		"if y { print 1 + n; }":                 2,
		"if y { print 1; } else { ns[0] = 1; }": 3,
		"if n < 1 + n { print 1; }":             3,
		"while y { print 1 + (n + n); }":        3,
		"while ns[n] < ns[n + 1] { }":           4,
		// Also what is never come to lies there.
		"return 1; print 1 + (2 + (3 + n));":            4,
		"if false { print 1 + n; } else { print 1; }":   2,
		"while true { return 1; ns[1] = 2; } return n;": 3,
	} {
		if got := body(t, compiled(t, inMethod(text)), "m").Stack; got != want {
			t.Errorf("%s %d, not %d", text, got, want)
		}
	}
}

// P13.2: all arguments are on the stack at once.
func TestHighStack(t *testing.T) {
	params, args := "int p0", "1"
	for i := range 199 {
		params += ", int p" + strconv.Itoa(i+1)
		args += ", 1"
	}
	f := compiled(t, "class T { method int a() { return this.m("+args+"); } method int b() { return T.s("+args+"); } method int m("+params+") { return 1; } static method int s("+params+") { return 1; } }")
	for name, want := range map[string]int{"a": 201, "b": 200, "m": 1, "s": 1} {
		if got := body(t, f, name).Stack; got != want {
			t.Error(name, got)
		}
	}
}

// P13.2: what stands behind the statements, also where nothing comes to it.
func TestEnds(t *testing.T) {
	for ret, want := range map[string]string{
		"int": "int 0", "bool": "bool 0", "T": "null", "A": "null", "int[]": "null", "bool[]": "null", "A[]": "null", "T[]": "null",
	} {
		value := strings.TrimPrefix(want, "int ")
		value = strings.Replace(value, "bool 0", "false", 1)
		for text, ahead := range map[string]string{
			"":                                  "",
			"print 3;":                          "int 3; print; ",
			"return " + value + ";":             want + "; return; ",
			"if true { return " + value + "; }": "bool 1; unless 5; " + want + "; return; jump 5; ",
			"while true { }":                    "bool 1; unless 3; jump 0; ",
		} {
			for _, static := range []string{"", "static "} {
				f := compiled(t, "class T { "+static+"method "+ret+" m() { "+text+" } }")
				if got := code(t, f, "m"); got != ahead+want+"; return" {
					t.Errorf("%s %s\n%s", ret, text, got)
				}
				if b := f.Bodies[0]; b.Stack != 1 {
					t.Error(ret, text, b.Stack)
				}
			}
		}
	}
}
