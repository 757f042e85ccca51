package hier

import (
	"kiln/api"
	"kiln/ast"
	"kiln/face"
)

// Known tells whether a type is one of classes that are there.
func (t *Table) Known(list ...ast.Type) bool {
	for _, x := range list {
		if !face.Good(x) {
			return false
		}
		part := x.Elem()
		if !part.Class() {
			continue
		}
		if _, there := t.look(part.Name); !there {
			return false
		}
	}
	return true
}

// Fits tells whether what is of one type may stand where another one is wanted.
func (t *Table) Fits(from, to ast.Type) bool {
	switch {
	case from == to:
		return true
	case from == ast.Nothing():
		return to.Object()
	}
	return from.Class() && to.Class() && t.Below(from.Name, to.Name)
}

// Check tells whether a class may stand where it does.
func (t *Table) Check(name string) api.Errno {
	all, whole := t.Above(name)
	if len(all) == 0 {
		return api.ErrName
	}
	if !whole {
		return t.broken(all[len(all)-1])
	}
	f, _ := t.look(name)
	if twice(f) {
		return api.ErrTwice
	}
	if e := t.checkFields(f.Fields, all[1:]); e != api.OK {
		return e
	}
	return t.checkMethods(f.Methods, all[1:])
}

// broken tells why classes don't go on behind a last one: if the one above it is there, it came ahead.
func (t *Table) broken(last string) api.Errno {
	f, _ := t.look(last)
	if _, there := t.look(f.Super); there {
		return api.ErrCycle
	}
	return api.ErrName
}

func (t *Table) checkFields(list []ast.Var, above []string) api.Errno {
	for _, x := range list {
		if !t.Known(x.Type) {
			return api.ErrName
		}
		if _, _, there := t.fieldOf(above, x.Name); there {
			return api.ErrTwice
		}
	}
	return api.OK
}

func (t *Table) checkMethods(list []face.Sig, above []string) api.Errno {
	for _, m := range list {
		if !t.Known(m.Ret) || !t.Known(m.Params...) {
			return api.ErrName
		}
		if m.Static {
			continue
		}
		if _, over, there := t.methodOf(above, m.Name, false); there && !over.Same(m) {
			return api.ErrOver
		}
	}
	return api.OK
}

// twice tells whether two fields, or two methods, side by side have one name.
func twice(f face.Face) bool {
	for i := 1; i < len(f.Fields); i++ {
		if f.Fields[i].Name == f.Fields[i-1].Name {
			return true
		}
	}
	for i := 1; i < len(f.Methods); i++ {
		if f.Methods[i].Name == f.Methods[i-1].Name {
			return true
		}
	}
	return false
}
