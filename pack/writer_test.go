package pack_test

import (
	"math"
	"testing"

	"kiln/pack"
)

func wantLaid(t *testing.T, what string, w *pack.Writer, want string) {
	t.Helper()
	if got := w.String(); got != want {
		t.Errorf("%s: %x, want %x", what, got, want)
	}
}

func TestZeroWriterHasLaidNothing(t *testing.T) {
	wantLaid(t, "zero", new(pack.Writer), "")
	wantLaid(t, "no parts", new(pack.Writer).Num().Text().Flag().Int(), "")
}

func TestWriterNum(t *testing.T) {
	for _, c := range []struct {
		n    int
		want string
	}{
		{0, "\x00"},
		{1, "\x01"},
		{127, "\x7f"},
		{128, "\x80\x01"},
		{300, "\xac\x02"},
		{1<<14 - 1, "\xff\x7f"},
		{1 << 14, "\x80\x80\x01"},
		{1<<32 - 1, "\xff\xff\xff\xff\x0f"},
		{1<<56 - 1, "\xff\xff\xff\xff\xff\xff\xff\x7f"},
		{1 << 56, "\x80\x80\x80\x80\x80\x80\x80\x80\x01"},
		{math.MaxInt, "\xff\xff\xff\xff\xff\xff\xff\xff\x7f"},
		{-1, "\x00"},
		{math.MinInt, "\x00"},
	} {
		wantLaid(t, "Num", new(pack.Writer).Num(c.n), c.want)
	}
	wantLaid(t, "Nums", new(pack.Writer).Num(300, -4, 0, 128), "\xac\x02\x00\x00\x80\x01")
}

func TestWriterText(t *testing.T) {
	wantLaid(t, "texts", new(pack.Writer).Text("ab", "", "\x00\xff"), "\x02ab\x00\x02\x00\xff")
	long := string(make([]byte, 300))
	wantLaid(t, "a long text", new(pack.Writer).Text(long), "\xac\x02"+long)
}

func TestWriterFlag(t *testing.T) {
	wantLaid(t, "flags", new(pack.Writer).Flag(true, false, true), "\x01\x00\x01")
}

func TestWriterInt(t *testing.T) {
	for _, c := range []struct {
		n    int64
		want string
	}{
		{0, "\x00\x00"},
		{-1, "\x00\x01"},
		{1, "\x00\x02"},
		{-2, "\x00\x03"},
		{1<<31 - 1, "\x00\xfe\xff\xff\xff\x0f"},
		{-1 << 31, "\x00\xff\xff\xff\xff\x0f"},
		{1 << 31, "\x01\x00"},
		{-1<<31 - 1, "\x01\x01"},
		{math.MaxInt64, "\xff\xff\xff\xff\x0f\xfe\xff\xff\xff\x0f"},
		{math.MinInt64, "\xff\xff\xff\xff\x0f\xff\xff\xff\xff\x0f"},
	} {
		wantLaid(t, "Int", new(pack.Writer).Int(c.n), c.want)
	}
	wantLaid(t, "Ints", new(pack.Writer).Int(1, -1), "\x00\x02\x00\x01")
}

func TestWriterTellsItself(t *testing.T) {
	var w pack.Writer
	if w.Num(1) != &w || w.Text("a") != &w || w.Flag(true) != &w || w.Int(1) != &w || w.Num() != &w {
		t.Error("another Writer is told")
	}
	wantLaid(t, "all", &w, "\x01\x01a\x01\x00\x02")
}

func TestStringStaysWhenMoreIsLaid(t *testing.T) {
	var w pack.Writer
	first := w.Num(1, 2).String()
	w.Num(3)
	if first != "\x01\x02" || w.String() != "\x01\x02\x03" || w.String() != "\x01\x02\x03" {
		t.Errorf("%x, then %x", first, w.String())
	}
}

func TestNilWriter(t *testing.T) {
	var w *pack.Writer
	if w.String() != "" || w.Num(1).Text("a").Flag(true).Int(1).String() != "" {
		t.Error("a nil Writer has laid something")
	}
}
