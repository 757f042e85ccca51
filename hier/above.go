package hier

import (
	"slices"

	"kiln/ast"
	"kiln/face"
)

// Above is a class and those above it, from it on, as long as there are some; false: it is above itself, or one isn't there.
func (t *Table) Above(name string) ([]string, bool) {
	var all []string
	came := map[string]struct{}{}
	for name != "" {
		f, there := t.look(name)
		_, twice := came[name]
		if !there || twice {
			return all, false
		}
		came[name] = struct{}{}
		all = append(all, name)
		name = f.Super
	}
	return all, true
}

// Below tells whether a class is another one, or below it.
func (t *Table) Below(name, other string) bool {
	all, _ := t.Above(name)
	return slices.Contains(all, other)
}

// Common is the lowest class that is above two, or one of them; none: there is none.
func (t *Table) Common(a, b string) string {
	list, _ := t.Above(a)
	// Of none above a nobody asks whether b is below it: b isn't looked at.
	if len(list) == 0 {
		return ""
	}
	other, _ := t.Above(b)
	// A map, lest each of one list be held against each of the other.
	both := map[string]struct{}{}
	for _, name := range other {
		both[name] = struct{}{}
	}
	for _, name := range list {
		if _, ok := both[name]; ok {
			return name
		}
	}
	return ""
}

// Field is whose field a class has by a name, and its type.
func (t *Table) Field(class, name string) (string, ast.Type, bool) {
	all, _ := t.Above(class)
	return t.fieldOf(all, name)
}

// Method is whose method a class has by a name, static or not, and what it takes and gives.
func (t *Table) Method(class, name string, static bool) (string, face.Sig, bool) {
	all, _ := t.Above(class)
	return t.methodOf(all, name, static)
}

// fieldOf is the field of the first one of these classes that has it.
func (t *Table) fieldOf(classes []string, name string) (string, ast.Type, bool) {
	for _, class := range classes {
		f, _ := t.look(class)
		if x, ok := f.Field(name); ok {
			return class, x, true
		}
	}
	return "", ast.Type{}, false
}

// methodOf is the method of the first one of these classes that has it so, static or not.
func (t *Table) methodOf(classes []string, name string, static bool) (string, face.Sig, bool) {
	for _, class := range classes {
		f, _ := t.look(class)
		if m, ok := f.Method(name); ok && m.Static == static {
			return class, m, true
		}
	}
	return "", face.Sig{}, false
}
