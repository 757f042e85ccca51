package ast

import (
	"reflect"
	"slices"
	"testing"

	"kiln/api"
)

// whole has one of each thing that Same is asked of.
type whole struct {
	e Expr
	s Stmt
	m Method
	c Class
}

// full is made anew at each call, so that one may be turned without the other.
func full() whole {
	p := func(n int) api.Pos { return api.Pos{Line: n, Col: n + 1} }
	bin := Expr{Kind: Bin, At: p(1), Name: "+", Of: Int(), Owner: "O", Kids: []Expr{
		{Kind: Local, At: p(2), Name: "a", Of: Int()}, {Kind: Num, At: p(3), Num: 1, Of: Int()}}}
	as := Expr{Kind: As, At: p(4), Type: Of("C"), Of: Of("C"), Kids: []Expr{{Kind: Local, Name: "a"}}}
	cond := Stmt{Does: If, At: p(5), E: []Expr{bin},
		Then: []Stmt{{Does: Print, At: p(6), E: []Expr{as}}},
		Else: []Stmt{{Does: Put, At: p(7), E: []Expr{{Kind: Local, Name: "a"}, {Kind: Null}}}}}
	let := Stmt{Does: Let, At: p(8), Name: "x", Type: Type{"C", true}, E: []Expr{{Kind: Array, Type: Int(), Kids: []Expr{{Kind: Num, Num: 5}}}}}
	m := Method{At: p(9), Name: "m", Static: true, Params: []Var{{"a", Int()}, {"b", Of("C")}}, Ret: Type{"bool", true}, Body: []Stmt{let, cond}}
	n := Method{At: p(10), Name: "n", Ret: Int(), Body: []Stmt{{Does: Return, E: []Expr{{Kind: Num, Num: 1}}}}}
	c := Class{At: p(11), Name: "C", Super: "D", Fields: []Var{{"f", Of("E")}, {"g", Type{"int", true}}}, Methods: []Method{m, n}}
	return whole{e: bin, s: cond, m: m, c: c}
}

// place is a path of fields and indices to a part of a tree.
type place struct {
	path []any
	told bool // no At, Of or Owner is on the path
}

// places is all parts of a tree that can be turned: numbers, texts, flags, lists.
func places(v reflect.Value, at place) []place {
	switch v.Kind() {
	case reflect.Struct:
		var all []place
		for i := range v.NumField() {
			name := v.Type().Field(i).Name
			told := at.told && !slices.Contains([]string{"At", "Of", "Owner"}, name)
			all = append(all, places(v.Field(i), place{append(slices.Clone(at.path), name), told})...)
		}
		return all
	case reflect.Slice:
		all := []place{at}
		for i := range v.Len() {
			all = append(all, places(v.Index(i), place{append(slices.Clone(at.path), i), at.told})...)
		}
		return all
	}
	return []place{at}
}

func find(v reflect.Value, path []any) reflect.Value {
	for _, p := range path {
		if i, ok := p.(int); ok {
			v = v.Index(i)
		} else {
			v = v.FieldByName(p.(string))
		}
	}
	return v
}

// turn changes one part, in the how-th of two ways.
func turn(v reflect.Value, how int) {
	switch v.Kind() {
	case reflect.Bool:
		v.SetBool(!v.Bool())
	case reflect.Int, reflect.Int64:
		v.SetInt(v.Int() + int64(1-2*how))
	case reflect.String:
		v.SetString(v.String() + "x")
	case reflect.Slice:
		if how == 1 && v.Len() > 0 {
			v.Set(v.Slice(0, v.Len()-1))
		} else {
			v.Set(reflect.Append(v, reflect.Zero(v.Type().Elem())))
		}
	}
}

// checkSame turns each part of a tree, and holds it against what it was, both ways round.
func checkSame[T any](t *testing.T, pick func(*whole) *T, same func(T, T) bool) {
	t.Helper()
	one, two := full(), full()
	if !same(*pick(&one), *pick(&two)) {
		t.Error("not the same as itself")
	}
	all := places(reflect.ValueOf(*pick(&one)), place{told: true})
	if len(all) < 10 {
		t.Fatal(len(all))
	}
	for _, at := range all {
		for how := range 2 {
			w := full()
			turn(find(reflect.ValueOf(pick(&w)).Elem(), at.path), how)
			if same(*pick(&one), *pick(&w)) == at.told || same(*pick(&w), *pick(&one)) == at.told {
				t.Error(at.path, how, !at.told)
			}
		}
	}
}

// P5.4: whatever turns, two are no longer the same, but for At, Of and Owner.
func TestSame(t *testing.T) {
	checkSame(t, func(w *whole) *Expr { return &w.e }, Expr.Same)
	checkSame(t, func(w *whole) *Stmt { return &w.s }, Stmt.Same)
	checkSame(t, func(w *whole) *Method { return &w.m }, Method.Same)
	checkSame(t, func(w *whole) *Class { return &w.c }, Class.Same)
}

// P5.4: no list and an empty one are one; the order counts.
func TestSameLists(t *testing.T) {
	if !(Expr{}).Same(Expr{Kids: []Expr{}}) || !(Stmt{}).Same(Stmt{E: []Expr{}, Then: []Stmt{}, Else: []Stmt{}}) {
		t.Error("expressions, statements")
	}
	if !(Method{}).Same(Method{Params: []Var{}, Body: []Stmt{}}) || !(Class{}).Same(Class{Fields: []Var{}, Methods: []Method{}}) {
		t.Error("methods, classes")
	}
	w := full().c
	slices.Reverse(w.Fields)
	if w.Same(full().c) {
		t.Error("order of fields")
	}
	w = full().c
	slices.Reverse(w.Methods)
	if w.Same(full().c) {
		t.Error("order of methods")
	}
	s := full().s
	s.Then, s.Else = s.Else, s.Then
	if s.Same(full().s) {
		t.Error("Then and Else")
	}
}
