package face_test

import (
	"crypto/sha256"
	"math/rand"
	"strings"
	"testing"

	"kiln/api"
	"kiln/ast"
	"kiln/face"
	"kiln/pack"
	"kiln/sha"
)

func laid(f face.Face) string {
	var w pack.Writer
	f.Lay(&w)
	return w.String()
}

// P7.3: the bytes of a face.
func TestLay(t *testing.T) {
	for _, x := range []struct {
		f    face.Face
		want string
	}{
		{face.Face{}, "\x00\x00\x00\x00"},
		{face.Face{Name: "A", Super: "Bc"}, "\x01A\x02Bc\x00\x00"},
		{some(), "\x01C\x01D" +
			"\x02\x01f\x01E\x00\x01g\x03int\x01" +
			"\x02\x01m\x00\x04bool\x00\x00" +
			"\x01n\x01\x01C\x01\x03\x03int\x00\x04bool\x01\x01C\x00"},
		// What isn't Right is laid, too, in the order in which it stands.
		{face.Face{Fields: []ast.Var{field("b", ast.Type{}), field("a", array("null"))}}, "\x00\x00\x02\x01b\x00\x00\x01a\x04null\x01\x00"},
		{face.Face{Name: "A", Methods: []face.Sig{{Name: "n"}, {Name: "m", Static: true}}}, "\x01A\x00\x00\x02\x01n\x00\x00\x00\x00\x01m\x01\x00\x00\x00"},
		{face.Face{Name: strings.Repeat("x", 300)}, "\xac\x02" + strings.Repeat("x", 300) + "\x00\x00\x00"},
		{face.Face{Methods: []face.Sig{{Params: make([]ast.Type, 300)}}}, "\x00\x00\x00\x01\x00\x00\x00\x00\xac\x02" + strings.Repeat("\x00\x00", 300)},
	} {
		if got := laid(x.f); got != x.want {
			t.Errorf("%+v: %q, not %q", x.f, got, x.want)
		}
	}
	var w pack.Writer
	some().Lay(w.Num(7))
	some().Lay(w.Text("x"))
	if got := w.String(); got != "\x07"+laid(some())+"\x01x"+laid(some()) {
		t.Errorf("%q", got)
	}
}

// full is a face with as much as there may be of all.
func full() face.Face {
	f := face.Face{Name: most, Super: most, Fields: fields(api.MaxMembers), Methods: methods(api.MaxMembers)}
	for i := range f.Methods {
		f.Methods[i].Params = ints(api.MaxMembers)
	}
	f.Fields[7] = field(strings.Repeat("z", api.MaxName), array(most))
	f.Methods[8] = sig(strings.Repeat("z", api.MaxName), array(most), array(most))
	return f
}

func byChance(r *rand.Rand) face.Face {
	name := func() string { return strings.Repeat(string(rune('A'+r.Intn(60))), r.Intn(8)) }
	kind := func() ast.Type { return ast.Type{Name: name(), Array: r.Intn(2) == 0} }
	f := face.Face{Name: name(), Super: name()}
	for range r.Intn(6) {
		f.Fields = append(f.Fields, field(name(), kind()))
	}
	for range r.Intn(6) {
		s := face.Sig{Name: name(), Static: r.Intn(2) == 0, Ret: kind()}
		for range r.Intn(5) {
			s.Params = append(s.Params, kind())
		}
		f.Methods = append(f.Methods, s)
	}
	return f
}

// P7.3: Read reads what Lay laid, Right or not, and not a byte more.
func TestRead(t *testing.T) {
	all := append(turned(), some(), full(), face.Face{}, face.Face{Name: "a", Super: "\x00"})
	r := rand.New(rand.NewSource(9))
	for range 500 {
		all = append(all, byChance(r))
	}
	for _, f := range all {
		s := laid(f)
		r := pack.Read(s)
		if got := face.Read(r); r.Done() != api.OK || !got.Same(f) {
			t.Fatalf("%.300v, not %.300v", got, f)
		}
		r = pack.Read("\x05" + s + "\x07")
		if r.Num(5) != 5 || !face.Read(r).Same(f) || r.Num(7) != 7 || r.Done() != api.OK {
			t.Fatalf("%.300v between others", f)
		}
	}
}

// P7.3: of bytes that are cut off nothing is a face.
func TestReadCutOff(t *testing.T) {
	r := rand.New(rand.NewSource(10))
	for range 50 {
		s := laid(byChance(r))
		for n := range len(s) {
			r := pack.Read(s[:n])
			if face.Read(r); r.OK() || r.Done() != api.ErrForm {
				t.Fatalf("%q of %q", s[:n], s)
			}
		}
	}
}

// P7.3: names beyond MaxName bytes, and more than MaxMembers, aren't read; nor are flags that are none.
func TestReadBeyondBounds(t *testing.T) {
	long := strings.Repeat("z", api.MaxName+1)
	for i, f := range []face.Face{
		{Name: long}, {Super: long},
		{Fields: []ast.Var{{Name: long}}},
		{Fields: []ast.Var{{Type: ast.Of(long)}}},
		{Methods: []face.Sig{{Name: long}}},
		{Methods: []face.Sig{{Ret: ast.Of(long)}}},
		{Methods: []face.Sig{{Params: []ast.Type{{Name: long}}}}},
		{Fields: fields(api.MaxMembers + 1)},
		{Methods: methods(api.MaxMembers + 1)},
		{Methods: []face.Sig{{Params: ints(api.MaxMembers + 1)}}},
	} {
		r := pack.Read(laid(f))
		if face.Read(r); r.OK() {
			t.Error(i)
		}
	}
	for _, s := range []string{
		"", "\x80\x00", "\x01A\x00\x00", "\x01A\x00\x02\x01f\x01E\x00", "\x01A\x00\x7f\x00", "\x01A\x00\x00\xff\xff\xff\xff\xff\xff\xff\xff\x7f",
		"\x01A\x00\x01\x01f\x01E\x02\x00",
		"\x01A\x00\x00\x01\x01m\x02\x01E\x00\x00",
		"\x01A\x00\x00\x01\x01m\x00\x01E\x02\x00",
		"\x01A\x00\x00\x01\x01m\x00\x01E\x00\x01\x01E\x02",
		"\x01A\x00\x80\x00\x00",
	} {
		r := pack.Read(s)
		if face.Read(r); r.OK() {
			t.Errorf("%q", s)
		}
	}
	if got := face.Read(nil); !got.Same(face.Face{}) {
		t.Error(got)
	}
}

// P7.3: whatever bytes, Read ends; what it reads without an error is laid as just these bytes.
func TestReadOfAnyBytes(t *testing.T) {
	r := rand.New(rand.NewSource(11))
	read := 0
	for range 20000 {
		b := []byte(laid(byChance(r)))
		for range r.Intn(3) {
			b[r.Intn(len(b))] = byte(r.Intn(256) >> r.Intn(8))
		}
		p := pack.Read(string(b))
		f := face.Read(p)
		if p.Done() != api.OK {
			continue
		}
		read++
		if laid(f) != string(b) {
			t.Fatalf("%q is read as %+v", b, f)
		}
	}
	if read < 5000 || read > 19000 {
		t.Error(read)
	}
}

// P7.3: a type is its Name and the flag Array; whether it is Good isn't asked.
func TestType(t *testing.T) {
	for _, x := range []ast.Type{ast.Int(), ast.Bool(), array("int"), ast.Of(most), array(most), ast.Nothing(), {}, array("")} {
		var w pack.Writer
		r := pack.Read(w.Text(x.Name).Flag(x.Array).Num(9).String())
		if got := face.Type(r); got != x || r.Num(9) != 9 || r.Done() != api.OK {
			t.Error(got, x)
		}
	}
	var w pack.Writer
	for _, s := range []string{"", "\x01", "\x01A", "\x01A\x02", w.Text(over).Flag(false).String()} {
		r := pack.Read(s)
		if face.Type(r); r.OK() {
			t.Errorf("%q", s)
		}
	}
	if got := face.Type(nil); got != (ast.Type{}) {
		t.Error(got)
	}
}

// P7.3: the digest is that of "face " and the bytes; unlike faces have unlike ones.
func TestDigest(t *testing.T) {
	seen := map[sha.Digest]face.Face{}
	for _, f := range append(turned(), some(), full(), face.Face{}) {
		d := f.Digest()
		if d != sha.Digest(sha256.Sum256([]byte("face "+laid(f)))) || d != f.Digest() {
			t.Errorf("%+v", f)
		}
		if o, ok := seen[d]; ok {
			t.Errorf("%+v, %+v", f, o)
		}
		seen[d] = f
	}
	if got := (face.Face{Name: "A"}).Digest(); got != sha.Sum("face \x01A\x00\x00\x00") {
		t.Error(got.Hex())
	}
}
