package types

import (
	"slices"

	"kiln/api"
	"kiln/ast"
)

// all goes through expressions, a copy of them, in order.
func (k *checker) all(list *[]ast.Expr) bool {
	*list = slices.Clone(*list)
	for i := range *list {
		if !k.expr(&(*list)[i]) {
			return false
		}
	}
	return true
}

func (k *checker) expr(e *ast.Expr) bool {
	if !k.need(len(e.Kids) >= kids(e.Kind), api.ErrArg, e.At) || !k.all(&e.Kids) {
		return false
	}
	switch e.Kind {
	case ast.Num, ast.True, ast.False, ast.Null, ast.This, ast.Local:
		return k.leaf(e)
	case ast.Get, ast.Call, ast.Static:
		return k.member(e)
	case ast.New, ast.As, ast.Is:
		return k.classed(e)
	case ast.Array, ast.Elem, ast.Length:
		return k.array(e)
	}
	return k.operator(e)
}

// kids is how many Kids there must be. No parser tells fewer, but a tree made by hand may lack some.
func kids(kind ast.Kind) int {
	switch kind {
	case ast.Get, ast.Call, ast.Array, ast.Length, ast.Neg, ast.Not, ast.As, ast.Is:
		return 1
	case ast.Elem, ast.Bin, ast.And, ast.Or:
		return 2
	}
	return 0
}

func (k *checker) leaf(e *ast.Expr) bool {
	there := true
	switch e.Kind {
	case ast.Num:
		e.Of = ast.Int()
	case ast.True, ast.False:
		e.Of = ast.Bool()
	case ast.Null:
		e.Of = ast.Nothing()
	case ast.This:
		e.Of, there = ast.Of(k.class), !k.static
	case ast.Local:
		e.Of, there = k.find(e.Name)
	}
	return k.need(there, api.ErrName, e.At)
}

// classed is what has a class beside its Kids: New, As, Is.
func (k *checker) classed(e *ast.Expr) bool {
	e.Of = e.Type
	if e.Kind == ast.Is {
		e.Of = ast.Bool()
	}
	if e.Kind != ast.New && !k.object(e.Kids[0]) {
		return false
	}
	return k.known(e)
}

// object needs an expression to be of a class, or nothing: arrays have no class to ask for.
func (k *checker) object(x ast.Expr) bool {
	return k.need(x.Of.Class() || x.Of == ast.Nothing(), api.ErrType, x.At)
}

// known needs an expression's own class to be there.
func (k *checker) known(e *ast.Expr) bool {
	return k.need(e.Type.Class() && k.Known(e.Type), api.ErrName, e.At)
}

func (k *checker) array(e *ast.Expr) bool {
	first := e.Kids[0]
	switch e.Kind {
	case ast.Array:
		e.Of = ast.Type{Name: e.Type.Name, Array: true}
		return k.only(ast.Int(), first) && k.need(k.Known(e.Type), api.ErrName, e.At)
	case ast.Elem:
		e.Of = first.Of.Elem()
		return k.parted(first) && k.only(ast.Int(), e.Kids[1])
	}
	e.Of = ast.Int()
	return k.parted(first)
}

// parted needs an expression to be an array.
func (k *checker) parted(x ast.Expr) bool {
	return k.need(x.Of.Array, api.ErrType, x.At)
}

func (k *checker) operator(e *ast.Expr) bool {
	switch e.Kind {
	case ast.Neg:
		e.Of = ast.Int()
		return k.only(ast.Int(), e.Kids...)
	case ast.Not, ast.And, ast.Or:
		e.Of = ast.Bool()
		return k.only(ast.Bool(), e.Kids...)
	case ast.Bin:
		return k.binary(e)
	}
	return k.need(false, api.ErrArg, e.At)
}

func (k *checker) binary(e *ast.Expr) bool {
	switch e.Name {
	case "==", "!=":
		e.Of = ast.Bool()
		return k.equals(e)
	case "<", "<=":
		e.Of = ast.Bool()
	default:
		e.Of = ast.Int()
	}
	return k.only(ast.Int(), e.Kids...)
}

// equals needs two that may be the same; the fault is neither one's alone.
func (k *checker) equals(e *ast.Expr) bool {
	a, b := e.Kids[0].Of, e.Kids[1].Of
	return k.need(a == b || a.Object() && b.Object(), api.ErrType, e.At)
}
