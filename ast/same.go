package ast

import (
	"slices"
)

// Same tells whether two expressions are the same, but for where they are, and for what the checker says.
func (e Expr) Same(o Expr) bool {
	return e.Kind == o.Kind && e.Num == o.Num && e.Name == o.Name && e.Type == o.Type &&
		slices.EqualFunc(e.Kids, o.Kids, Expr.Same)
}

// Same tells whether two statements are the same, but for that.
func (s Stmt) Same(o Stmt) bool {
	return s.Does == o.Does && s.Name == o.Name && s.Type == o.Type &&
		slices.EqualFunc(s.E, o.E, Expr.Same) &&
		slices.EqualFunc(s.Then, o.Then, Stmt.Same) &&
		slices.EqualFunc(s.Else, o.Else, Stmt.Same)
}

// Same tells whether two methods are the same, but for that.
func (m Method) Same(o Method) bool {
	return m.Name == o.Name && m.Static == o.Static && m.Ret == o.Ret &&
		slices.Equal(m.Params, o.Params) &&
		slices.EqualFunc(m.Body, o.Body, Stmt.Same)
}

// Same tells whether two classes are the same, but for that.
func (c Class) Same(o Class) bool {
	return c.Name == o.Name && c.Super == o.Super &&
		slices.Equal(c.Fields, o.Fields) &&
		slices.EqualFunc(c.Methods, o.Methods, Method.Same)
}
