package class_test

import (
	"math/rand"
	"slices"
	"testing"

	"kiln/api"
	"kiln/ast"
	"kiln/class"
	"kiln/face"
	"kiln/op"
)

// archived is what files are laid as, right or not.
func archived(list ...class.File) string {
	var p page
	p.num(len(list))
	for _, f := range list {
		p.text(model(f))
	}
	return string(p)
}

// wantFiles holds that Archive lays these files as the chapter says, and that Unpack tells them.
func wantFiles(t *testing.T, list ...class.File) {
	t.Helper()
	s, e := class.Archive(list...)
	if e != api.OK || s != archived(list...) {
		t.Errorf("%v, %.200q, not %.200q", e, s, archived(list...))
	}
	got, e := class.Unpack(s)
	if e != api.OK || !slices.EqualFunc(got, list, same) {
		t.Errorf("%v, %s, not %s", e, brief(got...), brief(list...))
	}
}

func wantNoFiles(t *testing.T, s string, what ...any) {
	t.Helper()
	if list, e := class.Unpack(s); e != api.ErrForm || len(list) != 0 {
		t.Errorf("%.200q: %v, %d files: %v", s, e, len(list), what)
	}
}

// P12.3: none, one, several, the same twice, as many as there may be; in the order in which they are.
func TestArchive(t *testing.T) {
	small, _ := small()
	plain := class.File{Face: face.Face{Name: "A"}}
	wantFiles(t)
	wantFiles(t, small)
	wantFiles(t, plain)
	wantFiles(t, full())
	wantFiles(t, small, plain, some())
	wantFiles(t, some(), plain, small, plain, plain)
	wantFiles(t, slices.Repeat([]class.File{plain}, api.MaxClasses)...)
	wantFiles(t, slices.Repeat([]class.File{some(), bare(true, 7)}, api.MaxClasses/2)...)
	if s, e := class.Archive(); s != "\x00" || e != api.OK {
		t.Errorf("no files: %q, %v", s, e)
	}
	if s, e := class.Archive(plain); s != "\x01\x0a\x01A\x00\x00\x00\x00\x00\x00\x00\x00" || e != api.OK {
		t.Errorf("one file: %q, %v", s, e)
	}
}

// P12.3: one more than there may be is ErrMany, though one of them isn't right; else that one is ErrArg, wherever it is.
func TestArchiveErrors(t *testing.T) {
	wrong := some()
	wrong.Bodies[1].Stack = -1
	for _, n := range []int{1, 2, 3, api.MaxClasses, api.MaxClasses + 1, api.MaxClasses + 2, 1000} {
		want := api.ErrArg
		if n > api.MaxClasses {
			want = api.ErrMany
		}
		for _, i := range edges(n) {
			list := slices.Repeat([]class.File{some()}, n)
			list[i] = wrong
			if s, e := class.Archive(list...); s != "" || e != want {
				t.Errorf("the %d. of %d isn't right: %.100q, %v", i, n, s, e)
			}
			wantNoFiles(t, archived(list...), i, n)
		}
	}
	for _, n := range []int{api.MaxClasses + 1, 1000} {
		list := slices.Repeat([]class.File{bare(true, 1)}, n)
		if s, e := class.Archive(list...); s != "" || e != api.ErrMany {
			t.Errorf("%d files: %.100q, %v", n, s, e)
		}
		wantNoFiles(t, archived(list...), n)
	}
}

// P12.3: archives that are cut off, or have more behind them, aren't any.
func TestUnpackCutOff(t *testing.T) {
	f, _ := small()
	for _, list := range [][]class.File{nil, {f}, {f, bare(true, 0), f}} {
		s := archived(list...)
		for n := range len(s) {
			wantNoFiles(t, s[:n], "cut off at", n)
		}
		for _, more := range []string{"\x00", "\x01", "\xff", model(f), s} {
			wantNoFiles(t, s+more, "more behind")
		}
	}
}

// P12.3: what isn't laid as an archive.
func TestUnpackWrong(t *testing.T) {
	a := "\x0a\x01A\x00\x00\x00\x00\x00\x00\x00\x00" // a class of nothing
	for _, s := range []string{"\x01" + a, "\x02" + a + a} {
		if list, e := class.Unpack(s); e != api.OK || len(list) != int(s[0]) || list[0].Name != "A" {
			t.Fatal(e, brief(list...))
		}
	}
	for _, s := range []string{
		"", "\x80\x00", "\x81\x00" + a, "\x02" + a, "\x00" + a, "\x01" + a + a, a, "\x01\x00", "\x01\x8a\x00" + a[1:],
		"\x01\x09" + a[1:len(a)-1], "\x01\x0b" + a[1:] + "\x00", "\x01\x0b" + a[1:], "\x01\x09" + a[1:],
		"\x01\x0a\x01a" + a[3:], "\x02" + a + "\x0a\x01a" + a[3:], "\x02\x0a\x01a" + a[3:] + a,
		"\xff\xff\xff\xff\xff\xff\xff\xff\x7f" + a, "\x01\xff\xff\xff\xff\xff\xff\xff\xff\x7f" + a[1:],
		"\xff\xff\xff\xff\xff\xff\xff\xff\xff\x01", "\xc8\x01",
	} {
		wantNoFiles(t, s)
	}
}

// P12.3: with bytes turned there are no files, or just those of which that is the archive.
func TestUnpackTurned(t *testing.T) {
	f, _ := small()
	s := []byte(archived(f, class.File{Face: face.Face{Name: "A"}}))
	r := rand.New(rand.NewSource(14))
	there, gone := 0, 0
	for i, was := range s {
		for range 40 {
			s[i] = byte(r.Intn(256) >> r.Intn(8))
			list, e := class.Unpack(string(s))
			switch {
			case e == api.OK && archived(list...) == string(s) && !slices.ContainsFunc(list, func(f class.File) bool { return !f.Right() }):
				there++
			case e == api.ErrForm && len(list) == 0:
				gone++
			default:
				t.Fatalf("%.1000q: %v, %s", s, e, brief(list...))
			}
		}
		s[i] = was
	}
	if there < 1000 || gone < 1000 {
		t.Error(there, gone)
	}
}

// scribble turns all that a file's lists have.
func scribble(f *class.File) {
	fill(f.Face.Fields, v("q", ast.Of("Q")))
	for i := range f.Face.Methods {
		fill(f.Face.Methods[i].Params, ast.Of("Q"))
		f.Face.Methods[i].Name = "q"
	}
	fill(f.Nums, 99)
	fill(f.Classes, "Q")
	fill(f.Types, ast.Of("Q"))
	fill(f.Pool.Fields, field("Q", "q", ast.Of("Q")))
	for i := range f.Pool.Methods {
		fill(f.Pool.Methods[i].Params, ast.Of("Q"))
		f.Pool.Methods[i].Class = "Q"
	}
	for i := range f.Bodies {
		fill(f.Bodies[i].Code, op.Instr{Code: op.Zero, A: 1})
		f.Bodies[i].Stack = 99
	}
}

func fill[T any](list []T, x T) {
	for i := range list {
		list[i] = x
	}
	if cap(list) > len(list) {
		list = list[:len(list)+1]
		list[len(list)-1] = x
	}
}

// No two lists that are told share anything.
func TestAnswersAreNew(t *testing.T) {
	s := archived(some(), some())
	list, _ := class.Unpack(s)
	again, _ := class.Unpack(s)
	scribble(&list[0])
	if !same(list[1], some()) || !same(again[0], some()) || !same(again[1], some()) {
		t.Error("files share lists")
	}
	one := list[1]
	fill(one.Face.Methods[0].Params, ast.Of("Q"))
	if some := some(); !one.Face.Methods[1].Same(some.Face.Methods[1]) || !slices.Equal(one.Pool.Methods[1].Params, some.Pool.Methods[1].Params) || !slices.Equal(one.Types, some.Types) {
		t.Error("lists of one file share parts")
	}
	fill(one.Bodies[0].Code, op.Instr{Code: op.Pop})
	if !slices.Equal(one.Bodies[1].Code, some().Bodies[1].Code) {
		t.Error("bodies share code")
	}
}
