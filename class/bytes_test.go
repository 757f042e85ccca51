package class_test

import (
	"math/rand"
	"strings"
	"testing"

	"kiln/api"
	"kiln/ast"
	"kiln/class"
	"kiln/face"
	"kiln/op"
)

// small is a file with a little of each thing, and what it is laid as, piece by piece.
func small() (class.File, []string) {
	m := sig("m", true, ast.Int(), ast.Int(), array("B"))
	f := class.File{Face: face.Face{Name: "Ab", Super: "B", Fields: []ast.Var{v("f", array("int"))}, Methods: []face.Sig{m, sig("n", false, ast.Bool())}}}
	f.Nums = []int64{-5, 300, 1 << 40}
	f.Classes = []string{"B", "Ab"}
	f.Types = []ast.Type{array("B"), ast.Bool()}
	f.Pool.Fields = []class.Field{field("Ab", "f", array("int"))}
	f.Pool.Methods = []class.Method{method("B", m), method("C", sig("x", false, ast.Of("B")))}
	f.Bodies = []class.Body{
		{Locals: 300, Stack: 1000, Code: []op.Instr{{Code: op.Int, A: 2}, {Code: op.Add}, {Code: op.Local, A: 299}, {Code: op.Zero, A: 1}, {Code: op.Return}}},
		{Locals: 1, Code: []op.Instr{{Code: op.Jump}}},
	}
	sigM := "\x01m\x01\x03int\x00\x02\x03int\x00\x01B\x01"
	return f, []string{
		"\x02Ab\x01B", "\x01\x01f\x03int\x01", "\x02" + sigM + "\x01n\x00\x04bool\x00\x00",
		"\x03\x00\x09\x00\xd8\x04\x80\x04\x00",
		"\x02\x01B\x02Ab",
		"\x02\x01B\x01\x04bool\x00",
		"\x01\x02Ab\x01f\x03int\x01",
		"\x02" + "\x01B\x00\x00\x01" + sigM + "\x01C\x00\x00\x01\x01x\x00\x01B\x00\x00",
		"\xac\x02\xe8\x07\x05" + "\x01\x02" + "\x05" + "\x03\xab\x02" + "\x20\x01" + "\x1d",
		"\x01\x00\x01" + "\x1b\x00",
	}
}

// P12.2: the bytes of a file, and the file of these bytes.
func TestEncode(t *testing.T) {
	f, pieces := small()
	want := strings.Join(pieces, "")
	if got, e := f.Encode(); got != want || e != api.OK {
		t.Errorf("%q, %v, not %q", got, e, want)
	}
	if got, e := class.Decode(want); !same(got, f) || e != api.OK {
		t.Errorf("%s, %v", brief(got), e)
	}
	f = class.File{Face: face.Face{Name: "A"}}
	if got, e := f.Encode(); got != "\x01A\x00\x00\x00"+"\x00\x00\x00\x00\x00" || e != api.OK {
		t.Errorf("%q, %v", got, e)
	}
}

// P12.2: each code is laid as its number, with A just if it has a pool.
func TestEncodeInstructions(t *testing.T) {
	f := some()
	b := f.Bodies[0]
	want := "\x08\x03\x21"
	for _, i := range b.Code {
		want += string(rune(i.Code))
		if i.Code.Pool() != 0 {
			want += string(rune(i.A))
		}
	}
	f.Face.Methods, f.Bodies = f.Face.Methods[:1], f.Bodies[:1]
	if got, e := f.Encode(); !strings.HasSuffix(got, want) || e != api.OK {
		t.Errorf("%q, %v: doesn't end with %q", got, e, want)
	}
}

// P12.2: whatever file: it is laid as the chapter says, and is read from that again.
func TestEncodeByChance(t *testing.T) {
	r := rand.New(rand.NewSource(12))
	for n := range 2000 {
		f := byChance(r)
		if n == 0 {
			f = full()
		}
		s, e := f.Encode()
		if e != api.OK || s != model(f) {
			t.Fatalf("%v, %.300q, not %.300q", e, s, model(f))
		}
		if g, e := class.Decode(s); e != api.OK || !same(f, g) {
			t.Fatalf("%v, %s, not %s", e, brief(g), brief(f))
		}
	}
}

func wantForm(t *testing.T, s string, what ...any) {
	t.Helper()
	if f, e := class.Decode(s); e != api.ErrForm || !none(f) {
		t.Errorf("%.200q: %v, %v: %v", s, e, none(f), what)
	}
}

// P12.2: bytes that are cut off, at either end, or that have more behind them, or ahead, are no file's.
func TestDecodeCutOff(t *testing.T) {
	f, pieces := small()
	for _, s := range []string{strings.Join(pieces, ""), model(some()), model(bare(false, 3)), model(class.File{Face: face.Face{Name: "A"}})} {
		for n := range len(s) {
			wantForm(t, s[:n], "cut off at", n)
		}
	}
	for _, f := range []class.File{f, some(), bare(true, 0), {Face: face.Face{Name: "A"}}} {
		s := model(f)
		for _, more := range []string{"\x00", "\x01", "\xff", s, strings.Repeat("\x00", 100)} {
			wantForm(t, s+more, "more behind")
			wantForm(t, more+s, "more ahead")
		}
		wantForm(t, s[1:], "the first one cut off")
	}
}

// P12.2: with one byte turned bytes are no file's, or just those of another one.
func TestDecodeTurned(t *testing.T) {
	f, _ := small()
	s := []byte(model(f))
	there, gone := 0, 0
	for i, was := range s {
		for b := range 256 {
			s[i] = byte(b)
			if checkDecode(t, string(s)) {
				there++
			} else {
				gone++
			}
		}
		s[i] = was
	}
	if there < 1000 || gone < 1000 {
		t.Error(there, gone)
	}
}

// P12.2: whatever bytes.
func TestDecodeAnyBytes(t *testing.T) {
	r := rand.New(rand.NewSource(13))
	there := 0
	const tries = 30000
	for range tries {
		b := []byte(model(byChance(r)))
		for range 1 + r.Intn(2) {
			b[r.Intn(len(b))] += byte(1 << r.Intn(8))
		}
		if r.Intn(4) == 0 {
			n, m := r.Intn(len(b)+1), r.Intn(len(b)+1)
			b = append(b[:min(n, m)], b[max(n, m):]...)
		}
		if checkDecode(t, string(b)) {
			there++
		}
	}
	if there < tries/20 || there > tries*19/20 {
		t.Error(there)
	}
}

// checkDecode holds Decode against the model's reader; it tells whether there is such a file.
func checkDecode(t *testing.T, s string) bool {
	t.Helper()
	r := scan{rest: []byte(s)}
	want := r.read()
	there := !r.bad && want.Right()
	got, e := class.Decode(s)
	if !there {
		if e != api.ErrForm || !none(got) {
			t.Fatalf("%.1000q: %v, %s", s, e, brief(got))
		}
		return false
	}
	if e != api.OK || !same(got, want) || !got.Right() || model(got) != s {
		t.Fatalf("%.1000q: %v, %s, not %s", s, e, brief(got), brief(want))
	}
	return true
}

// P12.2: in each piece something that no file is laid as.
func TestDecodeWrongPieces(t *testing.T) {
	for i, list := range [][]string{
		{"\x02Ab\x01b", "\x02ab\x01B", "\x00\x01B", "\x82\x00Ab\x01B", "\x03Ab\x01B"},
		{"\x01\x01f\x03int\x02", "\x01\x00\x03int\x01", "\x02\x01f\x03int\x01", "\x00\x01f\x03int\x01", "\x01\x01f\x03inu\x01", "\x81\x00\x01f\x03int\x01"},
		{"\x01\x01m\x01\x03int\x00\x02\x03int\x00\x01B\x01", "\x02\x01n\x00\x04bool\x00\x00\x01m\x01\x03int\x00\x02\x03int\x00\x01B\x01"},
		{"\x02\x00\x09\x00\xd8\x04", "\x03\x00\x09\x00\xd8\x04\x80\x80\x80\x80\x10\x00", "\x03\x00\x09\x00\xd8\x04\x00\x80\x80\x80\x80\x10", "\x03\x00\x09\x00\xd8\x04\x80\x84\x00\x00", "\x04\x00\x09\x00\xd8\x04\x80\x04\x00"},
		{"\x02\x01B\x02aB", "\x02\x01B\x00", "\x01\x01B\x02Ab", "\x02\x01B\x29" + over},
		{"\x02\x01B\x02\x04bool\x00", "\x02\x01B\x01\x04null\x00", "\x02\x01B\x01\x00\x00", "\x02\x01b\x01\x04bool\x00"},
		{"\x01\x02ab\x01f\x03int\x01", "\x01\x02Ab\x00\x03int\x01", "\x01\x02Ab\x01f\x03Iny\x03", "\x01\x02Ab\x29" + overlong + "\x03int\x01"},
		{
			"\x01" + "\x01B\x01C\x00\x01\x01m\x01\x03int\x00\x00",                // a class above
			"\x01" + "\x01B\x00\x01\x01f\x03int\x00\x01\x01m\x01\x03int\x00\x00", // a field
			"\x01" + "\x01B\x00\x00\x00",                                         // no method
			"\x01" + "\x01B\x00\x00\x02\x01m\x01\x03int\x00\x00\x01n\x01\x03int\x00\x00",
			"\x01" + "\x01b\x00\x00\x01\x01m\x01\x03int\x00\x00",
			"\x01" + "\x00\x00\x00\x01\x01m\x01\x03int\x00\x00",
			"\x01" + "\x01B\x00\x00\x01\x00\x01\x03int\x00\x00",
			"\x01" + "\x01B\x00\x00\x01\x01m\x02\x03int\x00\x00",
			"\x01" + "\x01B\x00\x00\x01\x01m\x01\x04null\x00\x00",
		},
		{
			"\x01\x00\x01\x1d", "\x92\x03\x00\x01\x1d", "\xac\x02\xe9\x07\x01\x1d", "\xac\x02\x00\x00", "\xac\x02\x00\x01\x00", "\xac\x02\x00\x01\x21", "\xac\x02\x00\x02\x1d",
			"\xac\x02\x00\x01\x01\x03", "\xac\x02\x00\x01\x03\xac\x02", "\xac\x02\x00\x01\x20\x02", "\xac\x02\x00\x01\x1b\x01", "\xac\x02\x00\x01\x9d\x00", "\xac\x02\x00\x01\x1d\x00",
		},
		{"\x00\x00\x01\x1b\x00", "\x01\x00\x00", "\x01\x00\x01\x1b\x01", "\x01\x00\x01\x1b", "\x01\x00\x01\x1d\x00", ""},
	} {
		for _, piece := range list {
			_, pieces := small()
			pieces[i] = piece
			wantForm(t, strings.Join(pieces, ""), "piece", i)
		}
	}
}

// P12.2: other pieces that a file may be laid as, so that those above are wrong for their own sake.
func TestDecodeRightPieces(t *testing.T) {
	for i, list := range [][]string{
		{"\x02Ab\x00", "\x01Z\x01Z", "\x28" + most + "\x01B"},
		{"\x00", "\x02\x01f\x03int\x01\x01g\x01Q\x00"},
		{"\x02\x01m\x00\x03int\x00\x02\x03int\x00\x01B\x01\x01n\x00\x04bool\x00\x00", "\x02\x01a\x01\x03int\x00\x00\x01b\x01\x04bool\x00\x01\x01X\x00"},
		{"\x03\x00\x09\x00\xd8\x04\x80\x04\x01", "\x04\x00\x09\x00\xd8\x04\xff\xff\xff\xff\x0f\xff\xff\xff\xff\x0f\x00\x00"},
		{"\x00", "\x01\x28" + most},
		{"\x00", "\x01\x01B\x01"},
		{"\x00", "\x01\x02Ab\x28" + longest + "\x03int\x01"},
		{"\x00", "\x01" + "\x01B\x00\x00\x01\x01m\x01\x03int\x00\x00"},
		{"\x02\x00\x01\x1d", "\x91\x03\xe8\x07\x01\x1d", "\xac\x02\x00\x01\x01\x02", "\xac\x02\x00\x01\x03\xab\x02", "\xac\x02\x00\x01\x20\x01", "\xac\x02\x00\x01\x1b\x00", "\xac\x02\x00\x02\x1d\x1b\x01"},
		{"\x01\x00\x01\x1d", "\x02\x01\x02\x1d\x1b\x01"},
	} {
		for _, piece := range list {
			_, pieces := small()
			pieces[i] = piece
			if s := strings.Join(pieces, ""); !checkDecode(t, s) {
				t.Errorf("%q: piece %d", s, i)
			}
		}
	}
}

// P12.2: as much as may be of each thing, and one more of it.
func TestDecodeBounds(t *testing.T) {
	f := full()
	if g, e := class.Decode(model(f)); e != api.OK || !same(f, g) {
		t.Error(e)
	}
	for i, turn := range []func(f *class.File){
		func(f *class.File) { f.Nums = append(f.Nums, 0) },
		func(f *class.File) { f.Classes = append(f.Classes, "A") },
		func(f *class.File) { f.Types = append(f.Types, ast.Int()) },
		func(f *class.File) { f.Pool.Fields = append(f.Pool.Fields, field("A", "a", ast.Int())) },
		func(f *class.File) { f.Pool.Methods = append(f.Pool.Methods, method("A", sig("a", true, ast.Int()))) },
		func(f *class.File) { f.Pool.Methods[9].Params = ints(api.MaxMembers + 1) },
		func(f *class.File) { f.Bodies[0].Code = append(f.Bodies[0].Code, op.Instr{Code: op.Pop}) },
		func(f *class.File) { f.Bodies[0].Locals++ },
		func(f *class.File) { f.Bodies[0].Stack++ },
		func(f *class.File) { f.Face.Fields = append(f.Face.Fields, v("z", ast.Int())) },
		func(f *class.File) {
			f.Face.Methods = append(f.Face.Methods, sig("z", true, ast.Int()))
			f.Bodies = append(f.Bodies, f.Bodies[1])
		},
		func(f *class.File) { f.Name = over },
		func(f *class.File) { f.Classes[5] = over },
		func(f *class.File) { f.Pool.Fields[5].Name = overlong },
		func(f *class.File) { f.Pool.Methods[5].Name = overlong },
	} {
		f := full()
		turn(&f)
		wantForm(t, model(f), "bound", i)
	}
}

// P12.2: numbers of parts that can't be there are refused, however great.
func TestDecodeManyOfNothing(t *testing.T) {
	for _, n := range []string{"\x01", "\x7f", "\x80\x80\x01", "\xff\xff\xff\xff\x0f", "\xff\xff\xff\xff\xff\xff\xff\xff\x7f", "\xff\xff\xff\xff\xff\xff\xff\xff\xff\x01"} {
		for ahead := range 8 {
			wantForm(t, "\x01A\x00"+strings.Repeat("\x00", ahead)+n, ahead)
		}
	}
	wantForm(t, "")
	wantForm(t, strings.Repeat("\x00", 1000))
	wantForm(t, strings.Repeat("\xff", 1000))
	wantForm(t, strings.Repeat("\x01", 1000))
}
