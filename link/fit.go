package link

import (
	"slices"

	"kiln/api"
	"kiln/ast"
	"kiln/class"
)

// fits tells whether a file fits to all others: by its face first, then by what its instructions name.
func (m *Image) fits(f class.File) api.Errno {
	if e := m.Check(f.Name); e != api.OK {
		return e
	}
	if m.lacks(f.Pool) {
		return api.ErrLink
	}
	return api.OK
}

// lacks tells whether a pool names something that isn't there.
func (m *Image) lacks(p class.Pool) bool {
	return slices.ContainsFunc(p.Classes, m.lacksClass) ||
		!m.Known(p.Types...) ||
		slices.ContainsFunc(p.Fields, m.lacksField) ||
		slices.ContainsFunc(p.Methods, m.lacksMethod)
}

func (m *Image) lacksClass(name string) bool { return !m.Known(ast.Of(name)) }

// lacksField: of another type it is another field, which isn't there.
func (m *Image) lacksField(x class.Field) bool {
	_, t, there := m.Field(x.Class, x.Name)
	return !there || t != x.Type
}

func (m *Image) lacksMethod(x class.Method) bool {
	_, there := m.Find(x)
	return !there
}
