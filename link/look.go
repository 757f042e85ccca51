package link

import (
	"slices"

	"kiln/ast"
	"kiln/class"
)

// Find is whose a method is that a class has: of the same name, that takes and gives the same.
func (m *Image) Find(x class.Method) (string, bool) {
	for _, name := range m.above(x.Class) {
		// The file's face, not the table's: that one would be copied each time.
		f, _ := m.File(name)
		if s, there := f.Face.Method(x.Name); there && s.Same(x.Sig) {
			return name, true
		}
	}
	return "", false
}

// Size is how many fields an object of a class has, its own and from above.
func (m *Image) Size(name string) int {
	size := 0
	for _, above := range m.above(name) {
		f, _ := m.File(above)
		size += len(f.Face.Fields)
	}
	return size
}

// Slot is where a field of a class is in its objects: those from above come first.
func (m *Image) Slot(name, field string) int {
	if m == nil {
		return -1
	}
	owner, _, there := m.Field(name, field)
	if !there {
		return -1
	}
	f, _ := m.File(owner)
	return m.Size(f.Super) + slices.IndexFunc(f.Face.Fields, func(x ast.Var) bool { return x.Name == field })
}

// above is a class and those above it, as far as they are there.
func (m *Image) above(name string) []string {
	if m == nil {
		return nil
	}
	all, _ := m.Above(name)
	return all
}
