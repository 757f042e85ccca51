package chance_test

import (
	"slices"
	"testing"

	"kiln/api"
	"kiln/ast"
	"kiln/chance"
	"kiln/class"
	"kiln/face"
	"kiln/gen"
	"kiln/hier"
	"kiln/op"
	"kiln/parse"
	"kiln/types"
)

// count goes through all that is in a class.
func count(c ast.Class, kinds map[ast.Kind]int, does map[ast.Does]int) {
	var exprs func(list []ast.Expr)
	exprs = func(list []ast.Expr) {
		for _, e := range list {
			kinds[e.Kind]++
			exprs(e.Kids)
		}
	}
	var block func(list []ast.Stmt)
	block = func(list []ast.Stmt) {
		for _, s := range list {
			does[s.Does]++
			exprs(s.E)
			block(s.Then)
			block(s.Else)
		}
	}
	for _, m := range c.Methods {
		block(m.Body)
	}
}

// All texts are classes, right beside each other, of which Files are the files; and all kinds of things come in them.
func TestTextsAreRight(t *testing.T) {
	kinds, does := map[ast.Kind]int{}, map[ast.Does]int{}
	for seed := range uint64(400) {
		var list []ast.Class
		var faces []face.Face
		for _, s := range chance.Texts(seed) {
			c, f := parse.Class(s)
			if f.E != api.OK {
				t.Fatal(seed, s, f)
			}
			list, faces = append(list, c), append(faces, face.Of(c))
		}
		tab := hier.New(faces...)
		var files []class.File
		for _, c := range list {
			c, f := types.Check(tab, c)
			if f.E != api.OK {
				t.Fatal(seed, c.Text(), f)
			}
			count(c, kinds, does)
			x, e := gen.Class(tab, c)
			if e != api.OK {
				t.Fatal(seed, c.Text(), e)
			}
			files = append(files, x)
		}
		if bytes(t, files) != bytes(t, chance.Files(seed)) {
			t.Fatal(seed)
		}
		_, sig, ok := tab.Method("Main", "go", true)
		if !ok || !slices.Equal(sig.Params, []ast.Type{ast.Int(), ast.Int()}) || sig.Ret != ast.Int() {
			t.Fatal(seed, sig, ok)
		}
	}
	for kind := ast.Num; kind <= ast.Is; kind++ {
		if kinds[kind] < 100 {
			t.Error(kind, kinds[kind])
		}
	}
	for what := ast.Let; what <= ast.Print; what++ {
		if does[what] < 100 {
			t.Error(what, does[what])
		}
	}
}

// One seed has one answer, and others have others.
func TestSeeds(t *testing.T) {
	var last []string
	for seed := range uint64(50) {
		a, b := chance.Texts(seed), chance.Texts(seed)
		if !slices.Equal(a, b) || slices.Equal(a, last) {
			t.Fatal(seed)
		}
		last = a
	}
}

// bytes are files as they are kept, which they are only as long as all of them are right.
func bytes(t *testing.T, list []class.File) string {
	t.Helper()
	s, e := class.Archive(list...)
	if e != api.OK {
		t.Fatal(e)
	}
	return s
}

// Files that are turned stay right, with the faces that they had; one seed has one answer, and what was handed in is what it was. All codes come in what is turned.
func TestTurned(t *testing.T) {
	codes := map[op.Code]int{}
	unlike := 0
	for seed := range uint64(40) {
		list := chance.Files(seed)
		for i := range uint64(60) {
			was := bytes(t, list)
			a, b := chance.Turned(i, list), chance.Turned(i, list)
			if bytes(t, a) != bytes(t, b) || bytes(t, list) != was {
				t.Fatal(seed, i)
			}
			if bytes(t, a) != was {
				unlike++
			}
			for j := range list {
				if !a[j].Face.Same(list[j].Face) {
					t.Fatal(seed, i, a[j].Face)
				}
				for _, x := range a[j].Bodies {
					for _, in := range x.Code {
						codes[in.Code]++
					}
				}
			}
			list = a
		}
	}
	if unlike < 40*60/2 {
		t.Error(unlike)
	}
	for c := op.Int; c <= op.Zero; c++ {
		if codes[c] == 0 {
			t.Error(c.Name())
		}
	}
}
