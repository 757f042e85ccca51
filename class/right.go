package class

import (
	"kiln/api"
	"kiln/face"
)

// mostLocals is this, as many parameters, and as many locals as there may be.
const mostLocals = 1 + 2*api.MaxMembers

// Right tells whether a class is one that may be kept.
func (f File) Right() bool {
	if !f.Face.Right() || !rightPool(f.Pool) || len(f.Bodies) != len(f.Face.Methods) {
		return false
	}
	for i, b := range f.Bodies {
		if !rightBody(f.Pool, f.Face.Methods[i], b) {
			return false
		}
	}
	return true
}

func rightPool(p Pool) bool {
	return len(p.Nums) <= api.MaxCode &&
		allRight(p.Classes, rightClass) &&
		allRight(p.Types, face.Good) &&
		allRight(p.Fields, func(x Field) bool { return x.alone().Right() }) &&
		allRight(p.Methods, func(m Method) bool { return m.alone().Right() })
}

func allRight[T any](list []T, right func(T) bool) bool {
	if len(list) > api.MaxCode {
		return false
	}
	for _, x := range list {
		if !right(x) {
			return false
		}
	}
	return true
}

func rightClass(name string) bool { return face.Face{Name: name}.Right() }

func rightBody(p Pool, s face.Sig, b Body) bool {
	if b.Locals < given(s) || b.Locals > mostLocals || b.Stack < 0 || b.Stack > api.MaxStack {
		return false
	}
	if len(b.Code) < 1 || len(b.Code) > api.MaxCode {
		return false
	}
	there := func(pool rune) int { return many(p, b, pool) }
	for _, i := range b.Code {
		if !i.Right(there) {
			return false
		}
	}
	return true
}

// given is how many locals a method has at its beginning.
func given(s face.Sig) int {
	if s.Static {
		return len(s.Params)
	}
	return len(s.Params) + 1
}

// many is how many there are of what an instruction names by a number.
func many(p Pool, b Body, pool rune) int {
	switch pool {
	case 'n':
		return len(p.Nums)
	case 'c':
		return len(p.Classes)
	case 't':
		return len(p.Types)
	case 'f':
		return len(p.Fields)
	case 'm':
		return len(p.Methods)
	case 'l':
		return b.Locals
	case 'j':
		return len(b.Code)
	case 'b':
		return 2
	}
	return 0
}
