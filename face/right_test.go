package face_test

import (
	"strconv"
	"strings"
	"testing"

	"kiln/api"
	"kiln/ast"
	"kiln/face"
)

var (
	most = "A" + strings.Repeat("x", api.MaxName-1) // the longest name of a class
	over = most + "x"
)

// names is so many names that rise.
func names(n int) []string {
	var all []string
	for i := range n {
		all = append(all, "m"+strconv.Itoa(1000+i))
	}
	return all
}

func fields(n int) []ast.Var {
	var all []ast.Var
	for _, name := range names(n) {
		all = append(all, field(name, ast.Int()))
	}
	return all
}

func methods(n int) []face.Sig {
	var all []face.Sig
	for _, name := range names(n) {
		all = append(all, sig(name, ast.Int()))
	}
	return all
}

func ints(n int) []ast.Type {
	var all []ast.Type
	for range n {
		all = append(all, ast.Int())
	}
	return all
}

// P7.2: int, bool, a Class's of at most MaxName bytes, and arrays of these.
func TestGood(t *testing.T) {
	for name, want := range map[string]bool{
		"int": true, "bool": true, "A": true, "Z": true, "Abc9_": true, most: true, "A b\x00": true, "Int": true,
		over: false, "null": false, "": false, "a": false, "ints": false, "in": false, "boolean": false,
		"@": false, "[": false, "_A": false, "9": false, "int[]": false, "É": false,
	} {
		for _, x := range []ast.Type{ast.Of(name), array(name)} {
			if face.Good(x) != want {
				t.Errorf("%q: not %v", x.Text(), want)
			}
		}
	}
}

// P7.2: what is Right, up to the bounds.
func TestRight(t *testing.T) {
	long := strings.Repeat("z", api.MaxName)
	for i, f := range []face.Face{
		some(),
		{Name: "A"},
		{Name: "Z", Super: "Z"},
		{Name: most, Super: most},
		{Name: "A", Fields: fields(api.MaxMembers), Methods: methods(api.MaxMembers)},
		{Name: "A", Methods: []face.Sig{sig("m", ast.Int(), ints(api.MaxMembers)...), sig("n", ast.Int(), ints(api.MaxMembers)...)}},
		{Name: "A", Fields: []ast.Var{field(long, array(most))}, Methods: []face.Sig{sig(long, array(most), array(most))}},
		{Name: "A", Fields: []ast.Var{field("m", ast.Int())}, Methods: []face.Sig{sig("m", ast.Int())}},
		// Of a member's name nothing is asked but how long it is, and that it is above the last one.
		{Name: "A", Fields: []ast.Var{field("\x00", ast.Int()), field(" ", ast.Int()), field("A", ast.Int()), field("\xff", ast.Int())}},
		{Name: "A", Methods: []face.Sig{sig("B", ast.Int()), sig("a", ast.Int()), sig("aa", ast.Int()), sig("b", ast.Int())}},
	} {
		if !f.Right() {
			t.Errorf("%d: %.300v", i, f)
		}
	}
}

// P7.2: what isn't Right: each of them for one reason alone.
func TestNotRight(t *testing.T) {
	long := strings.Repeat("z", api.MaxName+1)
	member := func(list ...ast.Var) face.Face { return face.Face{Name: "A", Fields: list} }
	method := func(list ...face.Sig) face.Face { return face.Face{Name: "A", Methods: list} }
	for i, f := range []face.Face{
		{},
		{Super: "A"},
		{Name: "a"}, {Name: "int"}, {Name: "bool"}, {Name: "null"}, {Name: "@"}, {Name: "["}, {Name: over},
		{Name: "A", Super: "b"}, {Name: "A", Super: "int"}, {Name: "A", Super: " "}, {Name: "A", Super: over},
		member(fields(api.MaxMembers + 1)...),
		method(methods(api.MaxMembers + 1)...),
		method(sig("m", ast.Int(), ints(api.MaxMembers+1)...)),
		method(sig("m", ast.Int()), sig("n", ast.Int(), ints(api.MaxMembers+1)...)),
		member(field("", ast.Int())),
		member(field(long, ast.Int())),
		member(field("a", ast.Int()), field("a", ast.Int())),
		member(field("b", ast.Int()), field("a", ast.Int())),
		member(field("a", ast.Int()), field("c", ast.Int()), field("b", ast.Int())),
		member(field("b", ast.Int()), field("B", ast.Int())),
		member(field("a", ast.Int()), field("", ast.Int())),
		method(sig("", ast.Int())),
		method(sig(long, ast.Int())),
		method(sig("a", ast.Int()), sig("a", ast.Int())),
		method(sig("a", ast.Int()), face.Sig{Name: "a", Static: true, Ret: ast.Int()}),
		method(sig("b", ast.Int()), sig("a", ast.Int())),
		method(sig("a", ast.Int()), sig("c", ast.Int()), sig("b", ast.Int())),
		member(field("a", ast.Nothing())),
		member(field("a", ast.Int()), field("b", array("null"))),
		member(field("a", ast.Type{})),
		member(field("a", ast.Of(over))),
		method(sig("m", ast.Nothing())),
		method(sig("m", ast.Int()), sig("n", ast.Of(over))),
		method(sig("m", ast.Int(), ast.Nothing())),
		method(sig("m", ast.Int(), ast.Int(), ast.Int(), array("x"))),
		method(sig("m", ast.Int()), sig("n", ast.Int(), ast.Of(""))),
	} {
		if f.Right() {
			t.Errorf("%d: %.300v", i, f)
		}
	}
}
