package face

import (
	"kiln/api"
	"kiln/ast"
)

// Good tells whether a type is one of something.
func Good(t ast.Type) bool {
	part := t.Elem()
	return part == ast.Int() || part == ast.Bool() || className(part.Name)
}

// Right tells whether a face is one: names of members rise, each once, and types are types.
func (f Face) Right() bool {
	if !className(f.Name) || f.Super != "" && !className(f.Super) {
		return false
	}
	return rightFields(f.Fields) && rightMethods(f.Methods)
}

func className(name string) bool { return ast.Of(name).Class() && len(name) <= api.MaxName }

func rightFields(list []ast.Var) bool {
	if len(list) > api.MaxMembers {
		return false
	}
	last := ""
	for _, x := range list {
		if !follows(last, x.Name) || !Good(x.Type) {
			return false
		}
		last = x.Name
	}
	return true
}

func rightMethods(list []Sig) bool {
	if len(list) > api.MaxMembers {
		return false
	}
	last := ""
	for _, m := range list {
		if !follows(last, m.Name) || !Good(m.Ret) || !rightParams(m.Params) {
			return false
		}
		last = m.Name
	}
	return true
}

// follows tells whether a member's name is one, and may stand behind the last one; ahead of the first one no name is the last one, which leaves out no name, too.
func follows(last, name string) bool { return last < name && len(name) <= api.MaxName }

func rightParams(list []ast.Type) bool {
	if len(list) > api.MaxMembers {
		return false
	}
	for _, t := range list {
		if !Good(t) {
			return false
		}
	}
	return true
}
