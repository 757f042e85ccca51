package op_test

import (
	"math"
	"strings"
	"testing"

	"kiln/api"
	"kiln/op"
)

// row is a code as the chapter tells it.
type row struct {
	code op.Code
	name string
	pool rune
	ends bool
}

// rows are all codes, in their order.
func rows() []row {
	return []row{
		{op.Int, "int", 'n', false},
		{op.Null, "null", 0, false},
		{op.Local, "local", 'l', false},
		{op.Store, "store", 'l', false},
		{op.Add, "add", 0, false},
		{op.Sub, "sub", 0, false},
		{op.Mul, "mul", 0, false},
		{op.Div, "div", 0, false},
		{op.Mod, "mod", 0, false},
		{op.Less, "less", 0, false},
		{op.Most, "most", 0, false},
		{op.Same, "same", 0, false},
		{op.Other, "other", 0, false},
		{op.Neg, "neg", 0, false},
		{op.Not, "not", 0, false},
		{op.Get, "get", 'f', false},
		{op.Put, "put", 'f', false},
		{op.New, "new", 'c', false},
		{op.Array, "array", 't', false},
		{op.Load, "load", 't', false},
		{op.Save, "save", 't', false},
		{op.Length, "length", 0, false},
		{op.Cast, "cast", 'c', false},
		{op.Is, "is", 'c', false},
		{op.Call, "call", 'm', false},
		{op.Static, "static", 'm', false},
		{op.Jump, "jump", 'j', true},
		{op.Unless, "unless", 'j', false},
		{op.Return, "return", 0, true},
		{op.Print, "print", 0, false},
		{op.Pop, "pop", 0, false},
		{op.Zero, "bool", 'b', false},
	}
}

// noCodes are numbers that are none.
func noCodes() []op.Code {
	return []op.Code{0, -1, -2, -32, 33, 34, 64, 256 + op.Int, 1<<32 + op.Int, math.MinInt, math.MinInt + op.Int, math.MaxInt}
}

// nums are numbers at and beside all that may be asked of an instruction.
func nums() []int {
	return []int{math.MinInt, -300, -2, -1, 0, 1, 2, 3, 4, 299, 300, api.MaxCode - 1, api.MaxCode, math.MaxInt - 1, math.MaxInt}
}

// P11.1: the codes are numbers from 1 on, and nothing else is one.
func TestKnown(t *testing.T) {
	for i, x := range rows() {
		if x.code != op.Code(i+1) || !x.code.Known() {
			t.Error(x.name, x.code)
		}
	}
	if op.Zero != 32 || len(rows()) != 32 {
		t.Error(op.Zero)
	}
	for _, c := range noCodes() {
		if c.Known() {
			t.Error(c)
		}
	}
}

// P11.1: each code's name; others have none.
func TestName(t *testing.T) {
	for _, x := range rows() {
		if got := x.code.Name(); got != x.name {
			t.Errorf("%d: %q, not %q", x.code, got, x.name)
		}
	}
	for _, c := range noCodes() {
		if got := c.Name(); got != "" {
			t.Errorf("%d: %q", c, got)
		}
	}
}

// P11.1: the code of each name, and of no other text.
func TestFind(t *testing.T) {
	known := map[string]op.Code{}
	for _, x := range rows() {
		known[x.name] = x.code
		if got, e := op.Find(x.name); got != x.code || e != api.OK {
			t.Errorf("%q: %d, %v", x.name, got, e)
		}
	}
	others := []string{"", " ", "zero", "Zero", "int 0", "bool 1", "true", "no", "else", "\x00", "intnull", "int,", "é", strings.Repeat("pop", 1000)}
	for name := range known {
		others = append(others, strings.ToUpper(name), strings.ToUpper(name[:1])+name[1:], name+" ", " "+name, name+"s", name+name, name[1:], name[:len(name)-1], name+"\x00")
	}
	for _, name := range others {
		if got, e := op.Find(name); known[name] == 0 && (got != 0 || e != api.ErrName) {
			t.Errorf("%q: %d, %v", name, got, e)
		}
	}
}

// P11.1: Jump and Return alone end.
func TestEnds(t *testing.T) {
	for _, x := range rows() {
		if x.code.Ends() != x.ends {
			t.Errorf("%s: not %v", x.name, x.ends)
		}
	}
	for _, c := range noCodes() {
		if c.Ends() {
			t.Error(c)
		}
	}
}

// P11.2: what each code's number is the number of.
func TestPool(t *testing.T) {
	for _, x := range rows() {
		if got := x.code.Pool(); got != x.pool {
			t.Errorf("%s: %q, not %q", x.name, got, x.pool)
		}
	}
	for _, c := range noCodes() {
		if got := c.Pool(); got != 0 {
			t.Errorf("%d: %q", c, got)
		}
	}
}

// P11.2: a number is right from 0 to below how many there are of its own kind, however many there are of others.
func TestRightWithPool(t *testing.T) {
	for _, x := range rows() {
		if x.pool == 0 {
			continue
		}
		for _, many := range []int{math.MinInt, -1, 0, 1, 2, 3, 300, api.MaxCode, math.MaxInt} {
			for _, others := range []int{0, 1, 3, math.MaxInt} {
				count := func(pool rune) int {
					if pool == x.pool {
						return many
					}
					return others
				}
				for _, a := range append(nums(), many-1, many) {
					if got, want := (op.Instr{Code: x.code, A: a}).Right(count), a >= 0 && a < many; got != want {
						t.Errorf("%s %d of %d: %v", x.name, a, many, got)
					}
				}
			}
		}
	}
}

// P11.2: where there is no pool 0 alone is right, however many there are of anything.
func TestRightWithoutPool(t *testing.T) {
	for _, x := range rows() {
		if x.pool != 0 {
			continue
		}
		for _, many := range []int{-1, 0, 1, 300, math.MaxInt} {
			for _, a := range nums() {
				i := op.Instr{Code: x.code, A: a}
				if got := i.Right(func(rune) int { return many }); got != (a == 0) {
					t.Errorf("%s, A %d, of %d: %v", x.name, a, many, got)
				}
			}
		}
	}
}

// P11.2: what has no known code is never right.
func TestRightOfNoCode(t *testing.T) {
	for _, c := range noCodes() {
		for _, many := range []int{0, 1, math.MaxInt} {
			for _, a := range nums() {
				if (op.Instr{Code: c, A: a}).Right(func(rune) int { return many }) {
					t.Error(c, a, many)
				}
			}
		}
	}
}

// P11.2: the name, and the number behind it of those that have a pool, whether it is right or not.
func TestText(t *testing.T) {
	for _, x := range rows() {
		for a, digits := range map[int]string{0: "0", 1: "1", 2: "2", 300: "300", -1: "-1", math.MaxInt: "9223372036854775807", math.MinInt: "-9223372036854775808"} {
			want := x.name
			if x.pool != 0 {
				want += " " + digits
			}
			if got := (op.Instr{Code: x.code, A: a}).Text(); got != want {
				t.Errorf("%q, not %q", got, want)
			}
		}
	}
	for _, c := range noCodes() {
		for _, a := range nums() {
			if got := (op.Instr{Code: c, A: a}).Text(); got != "" {
				t.Errorf("%d, %d: %q", c, a, got)
			}
		}
	}
	if got := (op.Instr{Code: op.Local, A: 2}).Text(); got != "local 2" {
		t.Errorf("the third local: %q", got)
	}
}
