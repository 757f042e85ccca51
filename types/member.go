package types

import (
	"kiln/api"
	"kiln/ast"
)

// member is what a class, or one above it, has by a name: Get, Call, Static.
func (k *checker) member(e *ast.Expr) bool {
	if e.Kind == ast.Static {
		return k.known(e) && k.call(e, e.Type.Name, e.Kids)
	}
	object := e.Kids[0]
	if !k.need(object.Of.Class(), api.ErrType, object.At) {
		return false
	}
	if e.Kind == ast.Call {
		return k.call(e, object.Of.Name, e.Kids[1:])
	}
	var there bool
	e.Owner, e.Of, there = k.Field(object.Of.Name, e.Name)
	return k.need(there, api.ErrName, e.At)
}

// call is a class's method with arguments.
func (k *checker) call(e *ast.Expr, class string, args []ast.Expr) bool {
	owner, sig, there := k.Method(class, e.Name, e.Kind == ast.Static)
	e.Owner, e.Of = owner, sig.Ret
	if !k.need(there, api.ErrName, e.At) || !k.need(len(args) == len(sig.Params), api.ErrCount, e.At) {
		return false
	}
	for i, x := range args {
		if !k.fit(x, sig.Params[i]) {
			return false
		}
	}
	return true
}
