package chance

import (
	"slices"
	"strconv"

	"kiln/ast"
)

func (k *maker) body(class string, m ast.Method) []ast.Stmt {
	k.class, k.static, k.ret, k.there, k.had = class, m.Static, m.Ret, slices.Clone(m.Params), 0
	var list []ast.Stmt
	for _, t := range []ast.Type{ast.Of(pick(&k.dice, k.names...)), {Name: pick(&k.dice, "int", "bool", k.names[0]), Array: true}} {
		list = append(list, k.let(t, k.fresh(t)))
	}
	list = append(list, k.block(3, 2+k.below(5))...)
	return append(list, ast.Stmt{Does: ast.Return, E: k.list(3, k.ret)})
}

func (k *maker) block(deep, n int) []ast.Stmt {
	ahead := len(k.there)
	var list []ast.Stmt
	for range n {
		list = append(list, k.stmt(deep)...)
	}
	k.there = k.there[:ahead]
	return list
}

// stmt is one statement, or a few that belong together.
func (k *maker) stmt(deep int) []ast.Stmt {
	switch n := k.below(20); {
	case n < 6:
		t := k.some()
		return []ast.Stmt{k.let(t, k.expr(t, 3))}
	case n < 10:
		return []ast.Stmt{k.put()}
	case n < 12:
		if e := k.call(2, k.anything()...); e.Kind != 0 {
			return []ast.Stmt{{Does: ast.Do, E: []ast.Expr{e}}}
		}
	case n < 14 && deep > 0:
		return []ast.Stmt{k.branch(deep - 1)}
	case n < 16 && deep > 0:
		return k.loop(deep - 1)
	case n == 16 && k.one(2):
		return []ast.Stmt{{Does: ast.Return, E: k.list(2, k.ret)}}
	}
	return []ast.Stmt{{Does: ast.Print, E: k.list(3, ast.Int())}}
}

// anything is types that all that a method may return fits one of.
func (k *maker) anything() []ast.Type {
	var all []ast.Type
	for _, name := range append([]string{"int", "bool"}, k.names...) {
		all = append(all, ast.Type{Name: name}, ast.Type{Name: name, Array: true})
	}
	return all
}

func (k *maker) let(t ast.Type, e ast.Expr) ast.Stmt {
	name := "v" + strconv.Itoa(k.had)
	// At times a name again, of a block that is left.
	if free := "w" + strconv.Itoa(len(k.there)); k.one(3) && !k.has(free) {
		name = free
	}
	k.had++
	k.there = append(k.there, ast.Var{Name: name, Type: t})
	return ast.Stmt{Does: ast.Let, Name: name, Type: t, E: []ast.Expr{e}}
}

func (k *maker) has(name string) bool {
	return slices.ContainsFunc(k.there, func(v ast.Var) bool { return v.Name == name })
}

// put is something put into a local, a field, or a part of an array.
func (k *maker) put() ast.Stmt {
	t := k.some()
	var place ast.Expr
	switch k.below(3) {
	case 0:
		place = k.get(t, 2)
	case 1:
		place = k.part(t, 2)
	}
	if place.Kind == 0 {
		if len(k.there) == 0 {
			return k.let(t, k.expr(t, 2))
		}
		v := pick(&k.dice, k.there...)
		return ast.Stmt{Does: ast.Put, E: []ast.Expr{{Kind: ast.Local, Name: v.Name}, k.expr(v.Type, 3)}}
	}
	// A field may be of another type that fits: nothing fits that but its own.
	if place.Kind == ast.Get {
		t = k.typeOf(place.Name)
	}
	return ast.Stmt{Does: ast.Put, E: []ast.Expr{place, k.expr(t, 3)}}
}

// typeOf is the type of a field, of which no two classes have one by the same name.
func (k *maker) typeOf(field string) ast.Type {
	for _, f := range k.faces {
		if t, ok := f.Field(field); ok {
			return t
		}
	}
	return ast.Type{}
}

func (k *maker) branch(deep int) ast.Stmt {
	s := ast.Stmt{Does: ast.If, E: k.list(2, ast.Bool()), Then: k.block(deep, 1+k.below(3))}
	if k.one(2) {
		s.Else = k.block(deep, 1+k.below(2))
	}
	return s
}

// loop mostly counts, and seldom goes on by chance.
func (k *maker) loop(deep int) []ast.Stmt {
	if k.one(4) {
		return []ast.Stmt{{Does: ast.While, E: k.list(2, ast.Bool()), Then: k.block(deep, 1+k.below(3))}}
	}
	first := k.let(ast.Int(), k.small(2))
	i := ast.Expr{Kind: ast.Local, Name: first.Name}
	more := ast.Expr{Kind: ast.Bin, Name: "<", Kids: []ast.Expr{i, k.small(5)}}
	next := ast.Expr{Kind: ast.Bin, Name: "+", Kids: []ast.Expr{i, {Kind: ast.Num, Num: 1}}}
	turn := ast.Stmt{Does: ast.Put, E: []ast.Expr{i, next}}
	return []ast.Stmt{first, {Does: ast.While, E: []ast.Expr{more}, Then: append(k.block(deep, 1+k.below(3)), turn)}}
}
