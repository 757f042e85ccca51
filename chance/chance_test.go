package chance_test

import (
	"slices"
	"testing"

	"kiln/api"
	"kiln/ast"
	"kiln/chance"
	"kiln/face"
	"kiln/hier"
	"kiln/parse"
	"kiln/types"
)

// count goes through all that is in a class.
func count(c ast.Class, kinds map[ast.Kind]int, does map[ast.Does]int) {
	var exprs func(list []ast.Expr)
	exprs = func(list []ast.Expr) {
		for _, e := range list {
			kinds[e.Kind]++
			exprs(e.Kids)
		}
	}
	var block func(list []ast.Stmt)
	block = func(list []ast.Stmt) {
		for _, s := range list {
			does[s.Does]++
			exprs(s.E)
			block(s.Then)
			block(s.Else)
		}
	}
	for _, m := range c.Methods {
		block(m.Body)
	}
}

// All texts are classes, right beside each other, and all kinds of things come in them.
func TestTextsAreRight(t *testing.T) {
	kinds, does := map[ast.Kind]int{}, map[ast.Does]int{}
	for seed := range uint64(400) {
		var list []ast.Class
		var faces []face.Face
		for _, s := range chance.Texts(seed) {
			c, f := parse.Class(s)
			if f.E != api.OK {
				t.Fatal(seed, s, f)
			}
			list, faces = append(list, c), append(faces, face.Of(c))
		}
		tab := hier.New(faces...)
		for _, c := range list {
			if _, f := types.Check(tab, c); f.E != api.OK {
				t.Fatal(seed, c.Text(), f)
			}
			count(c, kinds, does)
		}
		_, sig, ok := tab.Method("Main", "go", true)
		if !ok || !slices.Equal(sig.Params, []ast.Type{ast.Int(), ast.Int()}) || sig.Ret != ast.Int() {
			t.Fatal(seed, sig, ok)
		}
	}
	for kind := ast.Num; kind <= ast.Is; kind++ {
		if kinds[kind] < 100 {
			t.Error(kind, kinds[kind])
		}
	}
	for what := ast.Let; what <= ast.Print; what++ {
		if does[what] < 100 {
			t.Error(what, does[what])
		}
	}
}

// One seed has one answer, and others have others.
func TestSeeds(t *testing.T) {
	var last []string
	for seed := range uint64(50) {
		a, b := chance.Texts(seed), chance.Texts(seed)
		if !slices.Equal(a, b) || slices.Equal(a, last) {
			t.Fatal(seed)
		}
		last = a
	}
}
