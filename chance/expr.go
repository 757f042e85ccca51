package chance

import "kiln/ast"

// greatest is the greatest number that a text may have.
const greatest = 1 << 58

// expr is an expression that fits where a type is wanted.
func (k *maker) expr(want ast.Type, deep int) ast.Expr {
	if deep > 0 && k.one(2) {
		if e := k.nested(want, deep-1); e.Kind != 0 {
			return e
		}
	}
	if e := k.known(want); e.Kind != 0 && !k.one(6) {
		return e
	}
	return k.fresh(want)
}

// owner is an expression that has members, or parts: not null itself. Mostly it is known, lest all be asked of what is new.
func (k *maker) owner(want ast.Type, deep int) ast.Expr {
	if e := k.known(want); e.Kind != 0 && !k.one(4) {
		return e
	}
	for {
		if e := k.expr(want, deep); e.Kind != ast.Null {
			return e
		}
	}
}

// list is expressions for types.
func (k *maker) list(deep int, wants ...ast.Type) []ast.Expr {
	var all []ast.Expr
	for _, t := range wants {
		all = append(all, k.expr(t, deep))
	}
	return all
}

// known is a local, or this; none, if none fits.
func (k *maker) known(want ast.Type) ast.Expr {
	var all []ast.Expr
	for _, v := range k.there {
		if k.Fits(v.Type, want) {
			all = append(all, ast.Expr{Kind: ast.Local, Name: v.Name})
		}
	}
	if !k.static && k.Fits(ast.Of(k.class), want) {
		all = append(all, ast.Expr{Kind: ast.This})
	}
	if len(all) == 0 {
		return ast.Expr{}
	}
	return pick(&k.dice, all...)
}

// fresh is something that needs no other.
func (k *maker) fresh(want ast.Type) ast.Expr {
	switch {
	case want == ast.Int():
		return k.number()
	case want == ast.Bool():
		return ast.Expr{Kind: pick(&k.dice, ast.True, ast.False)}
	case k.one(16):
		return ast.Expr{Kind: ast.Null}
	case want.Array:
		return ast.Expr{Kind: ast.Array, Type: want.Elem(), Kids: []ast.Expr{k.small(5)}}
	}
	var below []string
	for _, f := range k.faces {
		if k.Below(f.Name, want.Name) {
			below = append(below, f.Name)
		}
	}
	return ast.Expr{Kind: ast.New, Type: ast.Of(pick(&k.dice, below...))}
}

func (k *maker) small(n int) ast.Expr { return ast.Expr{Kind: ast.Num, Num: int64(k.below(n))} }

func (k *maker) number() ast.Expr {
	if k.one(12) {
		return ast.Expr{Kind: ast.Num, Num: pick[int64](&k.dice, greatest, greatest-1, 1<<32, 1000003)}
	}
	return k.small(10)
}

// nested is something of others; none, if that can't be.
func (k *maker) nested(want ast.Type, deep int) ast.Expr {
	switch k.below(6) {
	case 0:
		return k.get(want, deep)
	case 1, 2:
		return k.call(deep, want)
	case 3:
		return k.part(want, deep)
	case 4:
		if want.Class() {
			return ast.Expr{Kind: ast.As, Type: want, Kids: k.list(deep, ast.Of(pick(&k.dice, k.names...)))}
		}
	}
	switch want {
	case ast.Int():
		return k.counted(deep)
	case ast.Bool():
		return k.asked(deep)
	}
	return ast.Expr{}
}

func (k *maker) counted(deep int) ast.Expr {
	switch k.below(6) {
	case 0:
		return ast.Expr{Kind: ast.Neg, Kids: k.list(deep, ast.Int())}
	case 1:
		array := ast.Type{Name: k.some().Name, Array: true}
		return ast.Expr{Kind: ast.Length, Kids: []ast.Expr{k.owner(array, deep)}}
	}
	return ast.Expr{Kind: ast.Bin, Name: pick(&k.dice, "+", "+", "-", "*", "*", "/", "%"), Kids: k.list(deep, ast.Int(), ast.Int())}
}

func (k *maker) asked(deep int) ast.Expr {
	switch k.below(6) {
	case 0:
		return ast.Expr{Kind: ast.Not, Kids: k.list(deep, ast.Bool())}
	case 1, 2:
		return ast.Expr{Kind: pick(&k.dice, ast.And, ast.Or), Kids: k.list(deep, ast.Bool(), ast.Bool())}
	case 3:
		return ast.Expr{Kind: ast.Is, Type: ast.Of(pick(&k.dice, k.names...)), Kids: k.list(deep, ast.Of(pick(&k.dice, k.names...)))}
	case 4:
		return ast.Expr{Kind: ast.Bin, Name: pick(&k.dice, "<", "<="), Kids: k.list(deep, ast.Int(), ast.Int())}
	}
	a, b := k.some(), k.some()
	if !a.Object() || !b.Object() {
		b = a
	}
	return ast.Expr{Kind: ast.Bin, Name: pick(&k.dice, "==", "!="), Kids: k.list(deep, a, b)}
}
