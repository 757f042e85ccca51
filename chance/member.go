package chance

import "kiln/ast"

// get is a field that fits; none, if no class has any.
func (k *maker) get(want ast.Type, deep int) ast.Expr {
	var all []ast.Expr
	for _, f := range k.faces {
		for _, v := range f.Fields {
			if k.Fits(v.Type, want) {
				all = append(all, ast.Expr{Kind: ast.Get, Name: v.Name, Type: ast.Of(f.Name)})
			}
		}
	}
	if len(all) == 0 {
		return ast.Expr{}
	}
	e := pick(&k.dice, all...)
	e.Kids, e.Type = []ast.Expr{k.owner(e.Type, deep)}, ast.Type{}
	return e
}

// call is a call that fits one of these types, in the name of the class that has the method, or of one below it; none, if there is none.
func (k *maker) call(deep int, wants ...ast.Type) ast.Expr {
	var all []ast.Expr
	for _, f := range k.faces {
		for _, m := range f.Methods {
			kind := ast.Call
			if m.Static {
				kind = ast.Static
			}
			if f.Name != "Main" && k.fitsOne(m.Ret, wants) {
				all = append(all, ast.Expr{Kind: kind, Name: m.Name, Type: ast.Of(f.Name)})
			}
		}
	}
	if len(all) == 0 {
		return ast.Expr{}
	}
	e := pick(&k.dice, all...)
	_, sig, _ := k.Method(e.Type.Name, e.Name, e.Kind == ast.Static)
	if e.Kind == ast.Call {
		e.Kids, e.Type = []ast.Expr{k.owner(e.Type, deep)}, ast.Type{}
	}
	e.Kids = append(e.Kids, k.list(deep, sig.Params...)...)
	return e
}

func (k *maker) fitsOne(t ast.Type, wants []ast.Type) bool {
	for _, want := range wants {
		if k.Fits(t, want) {
			return true
		}
	}
	return false
}

// part is a part of an array; none, if arrays have no such parts.
func (k *maker) part(want ast.Type, deep int) ast.Expr {
	if want.Array {
		return ast.Expr{}
	}
	at := k.small(3)
	if k.one(3) {
		at = k.expr(ast.Int(), deep)
	}
	array := k.owner(ast.Type{Name: want.Name, Array: true}, deep)
	return ast.Expr{Kind: ast.Elem, Kids: []ast.Expr{array, at}}
}
