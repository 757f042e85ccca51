package gen

import (
	"kiln/ast"
	"kiln/class"
	"kiln/hier"
)

// pool is what the instructions of a file name so far, and which number each of it has: a list alone would be gone through for each instruction.
type pool struct {
	*hier.Table
	class.Pool
	nums    map[int64]int
	classes map[string]int
	types   map[ast.Type]int
	fields  map[class.Field]int
	methods map[member]int
}

// member is a method by whose it is: a class has but one of a name.
type member struct {
	owner string
	name  string
}

func newPool(t *hier.Table) *pool {
	return &pool{
		Table:   t,
		nums:    map[int64]int{},
		classes: map[string]int{},
		types:   map[ast.Type]int{},
		fields:  map[class.Field]int{},
		methods: map[member]int{},
	}
}

// place is the number of a part in its list, which has it from now on.
func place[K comparable, T any](numbers map[K]int, list *[]T, key K, part T) int {
	i, there := numbers[key]
	if !there {
		i = len(*list)
		numbers[key] = i
		*list = append(*list, part)
	}
	return i
}

func (p *pool) num(n int64) int { return place(p.nums, &p.Nums, n, n) }

func (p *pool) class(name string) int { return place(p.classes, &p.Classes, name, name) }

func (p *pool) kind(t ast.Type) int { return place(p.types, &p.Types, t, t) }

// field is the one that a Get asks for.
func (p *pool) field(e *ast.Expr) int {
	x := class.Field{Var: ast.Var{Name: e.Name, Type: e.Of}, Class: e.Owner}
	return place(p.fields, &p.Fields, x, x)
}

// method is the one that a Call or a Static asks for. What it takes stands in its owner's face alone, which is looked for but once.
func (p *pool) method(e *ast.Expr) int {
	who := member{e.Owner, e.Name}
	if i, there := p.methods[who]; there {
		return i
	}
	_, sig, _ := p.Method(e.Owner, e.Name, e.Kind == ast.Static)
	return place(p.methods, &p.Methods, who, class.Method{Sig: sig, Class: e.Owner})
}
