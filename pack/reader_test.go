package pack_test

import (
	"math"
	"strings"
	"testing"

	"kiln/api"
	"kiln/pack"
)

// wantBroken holds that r is behind an error: nothing is told, nothing is left.
func wantBroken(t *testing.T, what string, r *pack.Reader) {
	t.Helper()
	for range 2 {
		if r.OK() || r.Done() != api.ErrForm {
			t.Errorf("%s: OK %v, Done %v", what, r.OK(), r.Done())
		}
		if n, m, i := r.Num(math.MaxInt), r.Many(math.MaxInt), r.Int(); n != 0 || m != 0 || i != 0 {
			t.Errorf("%s: Num %d, Many %d, Int %d behind an error", what, n, m, i)
		}
		if s, f := r.Text(math.MaxInt), r.Flag(); s != "" || f {
			t.Errorf("%s: Text %q, Flag %v behind an error", what, s, f)
		}
	}
}

func wantDone(t *testing.T, what string, r *pack.Reader) {
	t.Helper()
	if !r.OK() || r.Done() != api.OK {
		t.Errorf("%s: OK %v, Done %v", what, r.OK(), r.Done())
	}
}

func TestReaderOfNothing(t *testing.T) {
	wantDone(t, "nothing", pack.Read(""))
	wantDone(t, "zero", new(pack.Reader))
}

func TestReaderReadsWhatWasLaid(t *testing.T) {
	nums := []int{0, 1, 127, 128, 300, 1<<14 - 1, 1 << 14, 1<<32 - 1, 1 << 32, 1<<56 - 1, 1 << 56, math.MaxInt}
	texts := []string{"", "a", "\x00\x80\xff", strings.Repeat("xy", 500)}
	ints := []int64{0, 1, -1, 2, -2, 1<<31 - 1, 1 << 31, -1 << 31, -1<<31 - 1, math.MaxInt64, math.MinInt64}
	var w pack.Writer
	r := pack.Read(w.Num(nums...).Text(texts...).Flag(true, false, true).Int(ints...).String())
	for _, n := range nums {
		if got := r.Num(n); got != n {
			t.Errorf("Num %d, want %d", got, n)
		}
	}
	for _, s := range texts {
		if got := r.Text(len(s)); got != s {
			t.Errorf("Text %q, want %q", got, s)
		}
	}
	if !r.Flag() || r.Flag() || !r.Flag() {
		t.Error("flags")
	}
	for _, n := range ints {
		if r.Done() != api.ErrForm || !r.OK() {
			t.Error("bytes are left, but Done, or an error told")
		}
		if got := r.Int(); got != n {
			t.Errorf("Int %d, want %d", got, n)
		}
	}
	wantDone(t, "the end", r)
}

// Behind a call at the end there is an error, though all ahead of it was right.
func TestReaderBeyondTheEnd(t *testing.T) {
	for name, call := range map[string]func(*pack.Reader) bool{
		"Num":  func(r *pack.Reader) bool { return r.Num(9) == 0 },
		"Text": func(r *pack.Reader) bool { return r.Text(9) == "" },
		"Flag": func(r *pack.Reader) bool { return !r.Flag() },
		"Int":  func(r *pack.Reader) bool { return r.Int() == 0 },
		"Many": func(r *pack.Reader) bool { return r.Many(9) == 0 },
	} {
		r := pack.Read("\x05")
		if r.Num(5) != 5 || r.Done() != api.OK || !call(r) {
			t.Error(name)
		}
		wantBroken(t, name, r)
	}
}

func TestReaderNumAboveMost(t *testing.T) {
	for _, c := range []struct{ n, most int }{{1, 0}, {1, -1}, {1, math.MinInt}, {5, 4}, {300, 299}, {math.MaxInt, math.MaxInt - 1}} {
		r := pack.Read(new(pack.Writer).Num(c.n, 1, 2).String())
		if got := r.Num(c.most); got != 0 {
			t.Errorf("Num(%d) of %d: %d", c.most, c.n, got)
		}
		wantBroken(t, "above most", r)
	}
	for _, most := range []int{0, -1, math.MinInt} {
		r := pack.Read("\x00")
		if r.Num(most) != 0 {
			t.Error("0")
		}
		wantDone(t, "0", r)
	}
}

func TestReaderNumOfWrongBytes(t *testing.T) {
	for _, s := range []string{
		"", "\x80", "\xff\xff", "\x80\x00", "\x81\x00", "\xff\xff\x00", "\x80\x80",
		"\xff\xff\xff\xff\xff\xff\xff\xff\x00",
		"\xff\xff\xff\xff\xff\xff\xff\xff",
		"\xff\xff\xff\xff\xff\xff\xff\xff\xff",
		"\xff\xff\xff\xff\xff\xff\xff\xff\xff\x00",
		"\x80\x80\x80\x80\x80\x80\x80\x80\x80\x01",
		"\xff\xff\xff\xff\xff\xff\xff\xff\xff\x01",
	} {
		r := pack.Read(s)
		if got := r.Num(math.MaxInt); got != 0 {
			t.Errorf("Num of %x: %d", s, got)
		}
		wantBroken(t, "Num", r)
	}
}

// Each text of one to three bytes is read to its end just if it is the form of the number that is read.
func TestReaderNumHasOneForm(t *testing.T) {
	for size, want := range map[int]int{1: 128, 2: 127 << 7, 3: 127 << 14} {
		read := 0
		for n := range 1 << (8 * size) {
			s := string([]byte{byte(n), byte(n >> 8), byte(n >> 16)}[:size])
			r := pack.Read(s)
			got := r.Num(math.MaxInt)
			if r.Done() != api.OK {
				continue
			}
			read++
			if again := new(pack.Writer).Num(got).String(); again != s {
				t.Fatalf("%x is read as %d, which is %x", s, got, again)
			}
		}
		if read != want {
			t.Errorf("%d numbers of %d bytes, want %d", read, size, want)
		}
	}
}

func TestReaderText(t *testing.T) {
	r := pack.Read("\x02ab\x00\x01c\x07")
	if r.Text(2) != "ab" || r.Text(0) != "" || r.Text(100) != "c" || r.Num(7) != 7 {
		t.Error("texts")
	}
	wantDone(t, "texts", r)
	for _, c := range []struct {
		s    string
		most int
	}{{"\x03ab", 9}, {"\x01", 9}, {"\x02ab", 1}, {"\x01a", -1}, {"\x80\x00", 9}, {"\xff\xff\xff\xff\xff\xff\xff\xff\x7fabc", math.MaxInt}} {
		r := pack.Read(c.s)
		if got := r.Text(c.most); got != "" {
			t.Errorf("Text(%d) of %x: %q", c.most, c.s, got)
		}
		wantBroken(t, "Text", r)
	}
}

func TestReaderFlag(t *testing.T) {
	r := pack.Read("\x01\x00")
	if !r.Flag() || r.Flag() {
		t.Error("flags")
	}
	wantDone(t, "flags", r)
	for _, s := range []string{"", "\x02", "\x7f", "\x80\x01", "\x81\x00"} {
		r := pack.Read(s)
		if r.Flag() {
			t.Errorf("Flag of %x", s)
		}
		wantBroken(t, "Flag", r)
	}
}

func TestReaderIntOfWrongBytes(t *testing.T) {
	for _, s := range []string{
		"", "\x01", "\x01\x80", "\x80\x00\x01", "\x01\x81\x00",
		"\x80\x80\x80\x80\x10\x00",
		"\x00\x80\x80\x80\x80\x10",
		"\x00\xff\xff\xff\xff\x1f",
	} {
		r := pack.Read(s)
		if got := r.Int(); got != 0 {
			t.Errorf("Int of %x: %d", s, got)
		}
		wantBroken(t, "Int", r)
	}
}

func TestReaderMany(t *testing.T) {
	r := pack.Read("\x02ab")
	if r.Many(2) != 2 || !r.OK() || r.Done() != api.ErrForm {
		t.Error("as many bytes as parts are enough, and none of them is read")
	}
	if r.Num(97) != 'a' || r.Num(98) != 'b' {
		t.Error("parts")
	}
	wantDone(t, "parts", r)
	if r := pack.Read("\x00"); r.Many(0) != 0 || r.Done() != api.OK {
		t.Error("no parts")
	}
	for _, c := range []struct {
		s    string
		most int
	}{{"\x03ab", 9}, {"\x01", 9}, {"\x02ab", 1}, {"\x01a", -1}, {"", 9}} {
		r := pack.Read(c.s)
		if got := r.Many(c.most); got != 0 {
			t.Errorf("Many(%d) of %x: %d", c.most, c.s, got)
		}
		wantBroken(t, "Many", r)
	}
}

func TestReaderWithBytesLeft(t *testing.T) {
	r := pack.Read("\x01\x02")
	if r.Num(1) != 1 || !r.OK() || r.Done() != api.ErrForm {
		t.Error("a byte is left")
	}
	if !r.OK() || r.Num(2) != 2 {
		t.Error("Done has changed what is left")
	}
	wantDone(t, "all read", r)
}

func TestNilReader(t *testing.T) {
	wantBroken(t, "nil", nil)
}
