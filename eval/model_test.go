package eval_test

import (
	"math/rand"
	"testing"

	"kiln/api"
	"kiln/ast"
	"kiln/chance"
	"kiln/eval"
	"kiln/hier"
)

// model is layer 10 in the words of the chapter: a trap is a panic, a value is an int64, a bool, a *thing, or nil, each block has a copy of the locals' names.
type model struct {
	tab     *hier.Table
	classes map[string]ast.Class
	b       eval.Bounds
	used    eval.Bounds
	deep    int
	out     []int64
}

type thing struct {
	class  string
	fields map[string]any
	parts  []any
}

type names map[string]*any

// call is one of a method: what it is of, and what it returned.
type call struct {
	*model
	this any
	back any
}

func modelRun(p program, class, method string, args []int64, b eval.Bounds) (r eval.Result, used eval.Bounds) {
	m := &model{tab: p.tab, classes: map[string]ast.Class{}, b: b}
	for _, c := range p.list {
		m.classes[c.Name] = c
	}
	defer func() {
		r.Out, used = m.out, m.used
		if x := recover(); x != nil {
			r.Trap = x.(api.Trap)
		}
	}()
	var list []any
	for _, n := range args {
		list = append(list, n)
	}
	r.Num = m.enter(class, method, true, nil, list).(int64)
	return r, used
}

func stop(when bool, x api.Trap) {
	if when {
		panic(x)
	}
}

func zero(t ast.Type) any {
	switch t {
	case ast.Int():
		return int64(0)
	case ast.Bool():
		return false
	}
	return nil
}

func (m *model) step() {
	stop(m.used.Steps >= m.b.Steps, api.Fuel)
	m.used.Steps++
}

func (m *model) take(parts int64) {
	left := int64(m.b.Parts) - int64(m.used.Parts)
	stop(left < 1 || left-1 < parts, api.Heap)
	m.used.Parts += 1 + int(parts)
}

func (m *model) enter(class, method string, static bool, this any, args []any) any {
	stop(m.deep >= m.b.Deep, api.Deep)
	m.deep++
	m.used.Deep = max(m.used.Deep, m.deep)
	owner, _, _ := m.tab.Method(class, method, static)
	var code ast.Method
	for _, x := range m.classes[owner].Methods {
		if x.Name == method {
			code = x
		}
	}
	here := names{}
	for i, p := range code.Params {
		here[p.Name] = &args[i]
	}
	c := &call{model: m, this: this, back: zero(code.Ret)}
	c.block(here, code.Body)
	m.deep--
	return c.back
}

// block tells whether the method has ended.
func (c *call) block(outer names, list []ast.Stmt) bool {
	here := names{}
	for name, v := range outer {
		here[name] = v
	}
	for _, s := range list {
		c.step()
		switch s.Does {
		case ast.Let:
			v := c.expr(here, s.E[0])
			here[s.Name] = &v
		case ast.Put:
			c.put(here, s.E[0], s.E[1])
		case ast.Do:
			c.expr(here, s.E[0])
		case ast.If:
			then := s.Else
			if c.expr(here, s.E[0]).(bool) {
				then = s.Then
			}
			if c.block(here, then) {
				return true
			}
		case ast.While:
			for c.expr(here, s.E[0]).(bool) {
				if c.block(here, s.Then) {
					return true
				}
			}
		case ast.Return:
			c.back = c.expr(here, s.E[0])
			return true
		case ast.Print:
			n := c.expr(here, s.E[0]).(int64)
			c.out = append(c.out, n)
		}
	}
	return false
}

func (c *call) put(here names, where, what ast.Expr) {
	kids := c.list(here, where.Kids)
	v := c.expr(here, what)
	switch where.Kind {
	case ast.Local:
		*here[where.Name] = v
	case ast.Get:
		stop(kids[0] == nil, api.Null)
		kids[0].(*thing).fields[where.Name] = v
	case ast.Elem:
		*part(kids) = v
	}
}

func part(kids []any) *any {
	stop(kids[0] == nil, api.Null)
	list, i := kids[0].(*thing).parts, kids[1].(int64)
	stop(i < 0 || i >= int64(len(list)), api.Index)
	return &list[i]
}

func (c *call) list(here names, list []ast.Expr) []any {
	var all []any
	for _, e := range list {
		all = append(all, c.expr(here, e))
	}
	return all
}

func (c *call) expr(here names, e ast.Expr) any {
	c.step()
	if e.Kind == ast.And || e.Kind == ast.Or {
		first := c.expr(here, e.Kids[0]).(bool)
		if first == (e.Kind == ast.Or) {
			return first
		}
		return c.expr(here, e.Kids[1])
	}
	kids := c.list(here, e.Kids)
	switch e.Kind {
	case ast.Num:
		return e.Num
	case ast.True:
		return true
	case ast.False:
		return false
	case ast.This:
		return c.this
	case ast.Local:
		return *here[e.Name]
	case ast.Get:
		stop(kids[0] == nil, api.Null)
		return kids[0].(*thing).fields[e.Name]
	case ast.Call:
		stop(kids[0] == nil, api.Null)
		return c.enter(kids[0].(*thing).class, e.Name, false, kids[0], kids[1:])
	case ast.Static:
		return c.enter(e.Type.Name, e.Name, true, nil, kids)
	case ast.New:
		return c.object(e.Type.Name)
	case ast.Array:
		return c.array(e.Type, kids[0].(int64))
	case ast.Elem:
		return *part(kids)
	case ast.Length:
		stop(kids[0] == nil, api.Null)
		return int64(len(kids[0].(*thing).parts))
	case ast.Neg:
		return 0 - kids[0].(int64)
	case ast.Not:
		return !kids[0].(bool)
	case ast.Bin:
		return bin(e.Name, kids[0], kids[1])
	case ast.As:
		stop(kids[0] != nil && !c.of(kids[0], e.Type.Name), api.Cast)
		return kids[0]
	case ast.Is:
		return kids[0] != nil && c.of(kids[0], e.Type.Name)
	}
	return nil
}

func (c *call) of(v any, class string) bool { return c.tab.Below(v.(*thing).class, class) }

func (c *call) object(class string) any {
	o := &thing{class: class, fields: map[string]any{}}
	all, _ := c.tab.Above(class)
	for _, name := range all {
		f, _ := c.tab.Face(name)
		for _, x := range f.Fields {
			o.fields[x.Name] = zero(x.Type)
		}
	}
	c.take(int64(len(o.fields)))
	return o
}

func (c *call) array(t ast.Type, n int64) any {
	stop(n < 0, api.Index)
	c.take(n)
	o := &thing{parts: make([]any, n)}
	for i := range o.parts {
		o.parts[i] = zero(t)
	}
	return o
}

func bin(sign string, a, b any) any {
	switch sign {
	case "==":
		return a == b
	case "!=":
		return a != b
	}
	x, y := a.(int64), b.(int64)
	switch sign {
	case "<":
		return x < y
	case "<=":
		return x <= y
	case "+":
		return x + y
	case "-":
		return x - y
	case "*":
		return x * y
	}
	stop(y == 0, api.Zero)
	if sign == "/" {
		return x / y
	}
	return x % y
}

// all is how many classes by chance there are to run.
func all() uint64 {
	if testing.Short() {
		return 300
	}
	return 2000
}

// P10.1 to P10.4: what comes of classes by chance, with bounds of all kinds, is what the model says.
func TestModel(t *testing.T) {
	ended := map[api.Trap]int{}
	for seed := range all() {
		r := rand.New(rand.NewSource(int64(seed)))
		p := made(t, chance.Texts(seed)...)
		args := []int64{int64(r.Intn(7)) - 2, int64(r.Uint64())}
		b := eval.Bounds{Steps: 20000, Parts: 2000, Deep: 100}
		want, used := modelRun(p, "Main", "go", args, b)
		ended[want.Trap]++
		for range 4 {
			got := p.run(t, "Main", "go", b, args...)
			want, _ := modelRun(p, "Main", "go", args, b)
			if !same(got, want) {
				t.Fatalf("seed %d, %v of %v: %v, not %v", seed, b, args, got, want)
			}
			b = eval.Bounds{Steps: r.Intn(used.Steps + 1), Parts: r.Intn(used.Parts + 1), Deep: 1 + r.Intn(used.Deep)}
		}
		justEnough(t, p, args, want, used)
	}
	for x := api.NoTrap; x <= api.Deep; x++ {
		if ended[x] < int(all()/300) {
			t.Error("hardly ever", x, ended)
		}
	}
}

// justEnough holds what was used to be enough, unless it was too little, and one less of it to be too little.
func justEnough(t *testing.T, p program, args []int64, want eval.Result, used eval.Bounds) {
	t.Helper()
	hold := func(b eval.Bounds, want api.Trap) {
		t.Helper()
		if r := p.run(t, "Main", "go", b, args...); r.Trap != want {
			t.Fatalf("%v of %v: %v, not %v", b, args, r, want)
		}
	}
	if want.Trap == api.Fuel || want.Trap == api.Heap || want.Trap == api.Deep {
		return
	}
	if r := p.run(t, "Main", "go", used, args...); !same(r, want) {
		t.Fatalf("%v of %v: %v, not %v", used, args, r, want)
	}
	fewer, less, flatter := used, used, used
	fewer.Steps--
	less.Parts--
	flatter.Deep--
	hold(fewer, api.Fuel)
	hold(flatter, api.Deep)
	if used.Parts > 0 {
		hold(less, api.Heap)
	}
}
