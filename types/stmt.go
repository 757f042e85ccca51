package types

import (
	"slices"

	"kiln/api"
	"kiln/ast"
)

// block goes through statements: through a copy, since they get types and what was handed in doesn't.
func (k *checker) block(list *[]ast.Stmt) bool {
	defer k.leave(len(k.there))
	*list = slices.Clone(*list)
	for i := range *list {
		if !k.stmt(&(*list)[i]) {
			return false
		}
	}
	return true
}

func (k *checker) stmt(s *ast.Stmt) bool {
	if s.Does == ast.Let && !k.need(k.Known(s.Type), api.ErrName, s.At) {
		return false
	}
	if !k.need(len(s.E) >= exprs(s.Does), api.ErrArg, s.At) || !k.all(&s.E) {
		return false
	}
	switch s.Does {
	case ast.Let:
		return k.fit(s.E[0], s.Type) && k.local(ast.Var{Name: s.Name, Type: s.Type}, s.At)
	case ast.Put:
		return k.fit(s.E[1], s.E[0].Of)
	case ast.If, ast.While:
		return k.only(ast.Bool(), s.E[0]) && k.block(&s.Then) && k.block(&s.Else)
	case ast.Return:
		return k.fit(s.E[0], k.ret)
	case ast.Print:
		return k.only(ast.Int(), s.E[0])
	}
	return true
}

// exprs is how many expressions a statement has. No parser tells one of fewer, but a tree made by hand may lack some.
func exprs(d ast.Does) int {
	if d == ast.Put {
		return 2
	}
	return 1
}
