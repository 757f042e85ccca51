package verify

import (
	"kiln/ast"
	"kiln/link"
)

// kind is a type by its number: of long code so many are known at once that there is no room for their names.
type kind uint16

// unknown is the kind of the type of no name, which is nothing's.
const unknown kind = 0

// kinds are types by numbers. What they have in common is kept: it is asked for again and again.
type kinds struct {
	*link.Image
	types   []ast.Type
	numbers map[ast.Type]kind
	told    map[pair]kind
}

type pair struct {
	a, b kind
}

func newKinds(m *link.Image) *kinds {
	k := &kinds{Image: m, numbers: map[ast.Type]kind{}, told: map[pair]kind{}}
	// The first one has the number of unknown.
	k.of(ast.Type{})
	return k
}

func (k *kinds) of(t ast.Type) kind {
	n, there := k.numbers[t]
	if !there {
		n = kind(len(k.types))
		k.numbers[t] = n
		k.types = append(k.types, t)
	}
	return n
}

// common is the type that two have in common; unknown, if there is none.
func (k *kinds) common(a, b kind) kind {
	if a == b {
		return a
	}
	both, told := k.told[pair{a, b}]
	if !told {
		both = k.of(k.shared(k.types[a], k.types[b]))
		k.told[pair{a, b}] = both
	}
	return both
}

// shared is what two types that aren't the same have in common.
func (k *kinds) shared(a, b ast.Type) ast.Type {
	switch {
	case a == ast.Nothing() && b.Object():
		return b
	case b == ast.Nothing() && a.Object():
		return a
	case a.Class() && b.Class():
		return ast.Of(k.Common(a.Name, b.Name))
	}
	return ast.Type{}
}

// fits tells what layer 8's Fits does: whatever fits where a type is wanted has just that one in common with it.
func (k *kinds) fits(from, to kind) bool { return k.common(from, to) == to }
