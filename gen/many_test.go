package gen_test

import (
	"reflect"
	"strconv"
	"strings"
	"testing"

	"kiln/api"
	"kiln/ast"
	"kiln/class"
	"kiln/face"
	"kiln/gen"
	"kiln/hier"
	"kiln/types"
)

func num(n int) ast.Expr { return ast.Expr{Kind: ast.Num, Num: int64(n)} }

func printed(e ast.Expr) ast.Stmt { return ast.Stmt{Does: ast.Print, E: []ast.Expr{e}} }

func returns(name string, list ...ast.Stmt) ast.Method {
	return ast.Method{Name: name, Static: true, Ret: ast.Int(), Body: list}
}

// whether holds a class, beside faces, against whether there may be a file of it; what there is beside an error is nothing.
func whether(t *testing.T, what string, want bool, c ast.Class, faces ...face.Face) {
	t.Helper()
	tab := hier.New(append(faces, face.Of(c))...)
	c, fault := types.Check(tab, c)
	if fault.E != api.OK {
		t.Fatal(what, fault)
	}
	f, e := gen.Class(tab, c)
	if want && (e != api.OK || !f.Right()) {
		t.Error(what, e)
	}
	if !want && (e != api.ErrMany || !reflect.DeepEqual(f, class.File{})) {
		t.Error(what, e)
	}
}

// P13.1: ErrMany of a method of too many instructions. A print of a number has two, a while of true three, the end two.
func TestManyInstructions(t *testing.T) {
	prints := func(n int, more ...ast.Stmt) ast.Class {
		for range n {
			more = append(more, printed(num(1)))
		}
		return ast.Class{Name: "A", Methods: []ast.Method{returns("a"), returns("b", more...), returns("c")}}
	}
	loop := ast.Stmt{Does: ast.While, E: []ast.Expr{{Kind: ast.True}}}
	whether(t, "as many", true, prints(api.MaxCode/2-1))
	whether(t, "one more", false, prints(api.MaxCode/2-2, loop))
	whether(t, "two more", false, prints(api.MaxCode/2))
	whether(t, "one less", true, prints(api.MaxCode/2-3, loop))
}

// P13.1: ErrMany of a stack that becomes too high.
func TestManyWords(t *testing.T) {
	sum := func(n int) ast.Class {
		e := num(1)
		for range n - 1 {
			e = ast.Expr{Kind: ast.Bin, Name: "+", Kids: []ast.Expr{num(1), e}}
		}
		return ast.Class{Name: "A", Methods: []ast.Method{returns("a", printed(e)), returns("b")}}
	}
	whether(t, "as high", true, sum(api.MaxStack))
	whether(t, "one more", false, sum(api.MaxStack+1))
	// A text may have it, too: arguments in arguments.
	args := "1" + strings.Repeat(", 1", 198)
	deep := "1"
	for range 5 {
		deep = "A.m(" + args + ", " + deep + ")"
	}
	params := "int p0"
	for i := range 199 {
		params += ", int p" + strconv.Itoa(i+1)
	}
	text := func(e string) ast.Class {
		return parsed(t, "class A { static method int m("+params+") { return 1; } method int n() { return "+e+"; } }")[0]
	}
	whether(t, "996 in arguments", true, text(deep))
	whether(t, "1195 in arguments", false, text("A.m("+args+", "+deep+")"))
}

// spread is a class with statements in as many methods as they need.
func spread(n int, stmt func(i int) ast.Stmt) ast.Class {
	c := ast.Class{Name: "A"}
	for i := 0; i < n; {
		m := returns("m" + strconv.Itoa(100+len(c.Methods)))
		for ; i < n && len(m.Body) < 4000; i++ {
			m.Body = append(m.Body, stmt(i))
		}
		c.Methods = append(c.Methods, m)
	}
	return c
}

// P13.1: ErrMany of too many parts of one kind in all methods.
func TestManyParts(t *testing.T) {
	name := func(i int) string { return "C" + strconv.Itoa(i) }
	member := func(i int) string { return "m" + strconv.Itoa(100+i%200) }
	some := func(i int) ast.Expr { return ast.Expr{Kind: ast.New, Type: ast.Of(name(i))} }
	var faces, full []face.Face
	for i := range api.MaxCode + 1 {
		faces = append(faces, face.Face{Name: name(i)})
	}
	for i := range api.MaxCode/200 + 1 {
		f := face.Face{Name: name(i)}
		for j := range 200 {
			f.Fields = append(f.Fields, ast.Var{Name: member(j), Type: ast.Int()})
			f.Methods = append(f.Methods, face.Sig{Name: member(j), Static: true, Ret: ast.Int()})
		}
		full = append(full, f)
	}
	for what, x := range map[string]struct {
		faces []face.Face
		first int // how many there are by the ends of the methods
		stmt  func(i int) ast.Stmt
	}{
		"numbers": {nil, 1, func(i int) ast.Stmt { return printed(num(i + 1)) }},
		"classes": {faces, 0, func(i int) ast.Stmt {
			return ast.Stmt{Does: ast.While, E: []ast.Expr{{Kind: ast.Is, Type: ast.Of(name(i)), Kids: []ast.Expr{some(i)}}}}
		}},
		"types": {faces, 0, func(i int) ast.Stmt {
			array := ast.Expr{Kind: ast.Array, Type: ast.Of(name(i)), Kids: []ast.Expr{num(0)}}
			return printed(ast.Expr{Kind: ast.Length, Kids: []ast.Expr{array}})
		}},
		"fields": {full, 0, func(i int) ast.Stmt {
			return printed(ast.Expr{Kind: ast.Get, Name: member(i), Kids: []ast.Expr{some(i / 200)}})
		}},
		"methods": {full, 0, func(i int) ast.Stmt {
			return printed(ast.Expr{Kind: ast.Static, Name: member(i), Type: ast.Of(name(i / 200))})
		}},
	} {
		whether(t, what, true, spread(api.MaxCode-x.first, x.stmt), x.faces...)
		whether(t, what, false, spread(api.MaxCode-x.first+1, x.stmt), x.faces...)
	}
}

// P13.1: ErrMany also where the face alone isn't right.
func TestManyInFace(t *testing.T) {
	long := func(n int) string { return strings.Repeat("x", n) }
	fields := func(n int) (c ast.Class) {
		for i := range n {
			c.Fields = append(c.Fields, ast.Var{Name: "f" + strconv.Itoa(i), Type: ast.Int()})
		}
		c.Name = "A"
		return c
	}
	methods := func(n int) (c ast.Class) {
		for i := range n {
			c.Methods = append(c.Methods, returns("m"+strconv.Itoa(i)))
		}
		c.Name = "A"
		return c
	}
	for n, want := range map[int]bool{api.MaxMembers: true, api.MaxMembers + 1: false} {
		whether(t, "fields", want, fields(n))
		whether(t, "methods", want, methods(n))
	}
	for n, want := range map[int]bool{api.MaxName: true, api.MaxName + 1: false} {
		whether(t, "class's name", want, ast.Class{Name: "A" + long(n-1)})
		whether(t, "field's name", want, ast.Class{Name: "A", Fields: []ast.Var{{Name: long(n), Type: ast.Int()}}})
		whether(t, "method's name", want, ast.Class{Name: "A", Methods: []ast.Method{returns(long(n))}})
	}
	whether(t, "no class's name", false, ast.Class{Name: "a"})
	whether(t, "field without a name", false, ast.Class{Name: "A", Fields: []ast.Var{{Type: ast.Int()}}})
}
