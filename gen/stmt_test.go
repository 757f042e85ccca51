package gen_test

import "testing"

func statements(t *testing.T, all map[string]string) {
	t.Helper()
	for text, want := range all {
		if got := code(t, compiled(t, inMethod(text)), "m"); got != want+"int 0; return" {
			t.Errorf("%s\n%s\n%s", text, got, want)
		}
	}
}

// P13.4: Let, Do, Print, Return; statements in order.
func TestStatements(t *testing.T) {
	statements(t, map[string]string{
		"":                    "",
		"let int q = n + 1;":  "local 1; int 1; add; store 10; ",
		"let B q = null;":     "null; store 10; ",
		"this.get(1);":        "local 0; int 1; call A.get; pop; ",
		"A.one();":            "static A.one; pop; ",
		"a.self().self();":    "local 3; call A.self; call A.self; pop; ",
		"print n;":            "local 1; print; ",
		"print 1 + n;":        "int 1; local 1; add; print; ",
		"return n;":           "local 1; return; ",
		"return n; return 3;": "local 1; return; int 3; return; ",
		"print 1; print 2; n = 3; A.one(); return 4; print 5;": "int 1; print; int 2; print; int 3; store 1; static A.one; pop; int 4; return; int 5; print; ",
		"let bool q = y && y; print 1;":                        "local 2; unless 4; local 2; jump 5; bool 0; store 10; int 1; print; ",
		"return this.get(ns[0]);":                              "local 0; local 6; int 0; load int[]; call A.get; return; ",
	})
}

// P13.4: Put of a Local, a Get and an Elem: what the place is of lies ahead of the value.
func TestPut(t *testing.T) {
	statements(t, map[string]string{
		"n = 1;":                    "int 1; store 1; ",
		"n = n + 1;":                "local 1; int 1; add; store 1; ",
		"bs = null;":                "null; store 9; ",
		"let int q = 1; q = n;":     "int 1; store 10; local 1; store 10; ",
		"a.x = n;":                  "local 3; local 1; put A.x int; ",
		"this.x = 1 + n;":           "local 0; int 1; local 1; add; put A.x int; ",
		"this.next = this;":         "local 0; local 0; put T.next T; ",
		"this.next.next.c = new C;": "local 0; get T.next T; get T.next T; new C; put B.c C; ",
		"a.b.list = bs[0].list;":    "local 3; get A.b B; local 9; int 0; load B[]; get A.list A[]; put A.list A[]; ",
		"a.self().y = y || y;":      "local 3; call A.self; local 2; unless 6; bool 1; jump 7; local 2; put A.y bool; ",
		"ns[0] = 1;":                "local 6; int 0; int 1; save int[]; ",
		"ns[n + 1] = ns[n];":        "local 6; local 1; int 1; add; local 6; local 1; load int[]; save int[]; ",
		"ys[0] = y && true;":        "local 7; int 0; local 2; unless 6; bool 1; jump 7; bool 0; save bool[]; ",
		"as1[0] = b;":               "local 8; int 0; local 4; save A[]; ",
		"bs[0] = null;":             "local 9; int 0; null; save B[]; ",
		"as1[0].list[1] = as1[2];":  "local 8; int 0; load A[]; get A.list A[]; int 1; local 8; int 2; load A[]; save A[]; ",
		"new int[2][1] = 3;":        "int 2; array int[]; int 1; int 3; save int[]; ",
		"a.nums[ns[0]] = a.get(1);": "local 3; get A.nums int[]; local 6; int 0; load int[]; local 3; int 1; call A.get; save int[]; ",
		"(new T).x = 1;":            "new T; int 1; put A.x int; ",
		"as1[n].b.x = as1[n].b.x;":  "local 8; local 1; load A[]; get A.b B; local 8; local 1; load A[]; get A.b B; get A.x int; put A.x int; ",
	})
}

// P13.4: While, also in each other, and with nothing in it.
func TestWhile(t *testing.T) {
	statements(t, map[string]string{
		"while y { }":                                   "local 2; unless 3; jump 0; ",
		"while y { print 1; n = 2; }":                   "local 2; unless 7; int 1; print; int 2; store 1; jump 0; ",
		"print 9; while n < 3 { n = n + 1; } print 8;":  "int 9; print; local 1; int 3; less; unless 11; local 1; int 1; add; store 1; jump 2; int 8; print; ",
		"while y { while ys[0] { print 1; } print 2; }": "local 2; unless 12; local 7; int 0; load bool[]; unless 9; int 1; print; jump 2; int 2; print; jump 0; ",
		"while y { while y { while y { } } }":           "local 2; unless 9; local 2; unless 8; local 2; unless 7; jump 4; jump 2; jump 0; ",
		"while y && y { print 1; }":                     "local 2; unless 4; local 2; jump 5; bool 0; unless 9; int 1; print; jump 0; ",
		"while y { return 1; }":                         "local 2; unless 5; int 1; return; jump 0; ",
		"while y { } while y { }":                       "local 2; unless 3; jump 0; local 2; unless 6; jump 3; ",
	})
}

// P13.4: If, with and without an Else, or an if in its place, and with nothing in them; also in each other and in While.
func TestIf(t *testing.T) {
	statements(t, map[string]string{
		"if y { }":                   "local 2; unless 3; jump 3; ",
		"if y { } else { }":          "local 2; unless 3; jump 3; ",
		"if y { print 1; }":          "local 2; unless 5; int 1; print; jump 5; ",
		"if y { print 1; } print 2;": "local 2; unless 5; int 1; print; jump 5; int 2; print; ",
		"if y { print 1; } else { print 2; } print 3;":                      "local 2; unless 5; int 1; print; jump 7; int 2; print; int 3; print; ",
		"if y { } else { print 2; }":                                        "local 2; unless 3; jump 5; int 2; print; ",
		"if y { print 1; print 2; } else { n = 3; n = 4; }":                 "local 2; unless 7; int 1; print; int 2; print; jump 11; int 3; store 1; int 4; store 1; ",
		"if y { print 1; } else if ys[0] { print 2; } else { print 3; }":    "local 2; unless 5; int 1; print; jump 14; local 7; int 0; load bool[]; unless 12; int 2; print; jump 14; int 3; print; ",
		"if y { print 1; } else if y { print 2; }":                          "local 2; unless 5; int 1; print; jump 10; local 2; unless 10; int 2; print; jump 10; ",
		"if y { if y { print 1; } else { print 2; } } else { print 3; }":    "local 2; unless 10; local 2; unless 7; int 1; print; jump 9; int 2; print; jump 12; int 3; print; ",
		"if y { if y { print 1; } } else { print 3; }":                      "local 2; unless 8; local 2; unless 7; int 1; print; jump 7; jump 10; int 3; print; ",
		"if y || y { print 1; }":                                            "local 2; unless 4; bool 1; jump 5; local 2; unless 9; int 1; print; jump 9; ",
		"if y { return 1; } else { return 2; }":                             "local 2; unless 5; int 1; return; jump 7; int 2; return; ",
		"while y { if y { print 1; } }":                                     "local 2; unless 8; local 2; unless 7; int 1; print; jump 7; jump 0; ",
		"while y { if y { print 1; } else { print 2; } }":                   "local 2; unless 10; local 2; unless 7; int 1; print; jump 9; int 2; print; jump 0; ",
		"if y { while y { print 1; } }":                                     "local 2; unless 8; local 2; unless 7; int 1; print; jump 2; jump 8; ",
		"if y { while y { } } else { while ys[0] { print 1; } }":            "local 2; unless 6; local 2; unless 5; jump 2; jump 13; local 7; int 0; load bool[]; unless 13; int 1; print; jump 6; ",
		"if y { let int q = 1; print q; } else { let int q = 2; print q; }": "local 2; unless 7; int 1; store 10; local 10; print; jump 11; int 2; store 11; local 11; print; ",
	})
}
