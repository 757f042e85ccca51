package types

import (
	"kiln/api"
	"kiln/ast"
)

// scope is the locals of a method.
type scope struct {
	there []ast.Var
	had   int // how many there were in all: those that are gone count, too
}

// find is the type of a local that is there.
func (s *scope) find(name string) (ast.Type, bool) {
	for _, v := range s.there {
		if v.Name == name {
			return v.Type, true
		}
	}
	return ast.Type{}, false
}

func (s *scope) add(v ast.Var) api.Errno {
	if _, twice := s.find(v.Name); twice {
		return api.ErrTwice
	}
	if s.had == api.MaxMembers {
		return api.ErrMany
	}
	s.there = append(s.there, v)
	s.had++
	return api.OK
}

// leave is the end of a block ahead of which there were so many.
func (s *scope) leave(ahead int) { s.there = s.there[:ahead] }
