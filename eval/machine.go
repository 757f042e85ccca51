package eval

import (
	"kiln/api"
	"kiln/ast"
	"kiln/hier"
)

// machine is what all calls of a program share. Its Bounds are what is left of them; behind a trap it stands still.
//
// What is under way lies in lists of its own, not on Go's stack, which ends a program that is too deep: here Deep and Steps alone do.
type machine struct {
	*hier.Table
	Bounds
	Result
	classes map[string]*ast.Class
	methods map[member]*ast.Method
	kinds   map[string]*kind
	top     *frame
	work    []task  // what is under way, each task in the one ahead of it
	values  []value // what they wait with
}

// member is a method as it is asked for.
type member struct {
	class  string
	name   string
	static bool
}

func newMachine(t *hier.Table, list []ast.Class, b Bounds) *machine {
	m := &machine{
		Table:   t,
		Bounds:  b,
		classes: map[string]*ast.Class{},
		methods: map[member]*ast.Method{},
		kinds:   map[string]*kind{},
	}
	for i := range list {
		m.classes[list[i].Name] = &list[i]
	}
	return m
}

// run goes on till the first call is left, or there is a trap.
func (m *machine) run() {
	for m.top != nil && m.Trap == api.NoTrap {
		m.top.turn()
	}
	if m.Trap == api.NoTrap {
		m.Num = m.pop().num
	}
}

// trap keeps the trap; the value stands for the one that there won't be.
func (m *machine) trap(t api.Trap) value {
	m.Trap = t
	return value{}
}

func (m *machine) lay(t task) { m.work = append(m.work, t) }

// begin lays a task that is a step.
func (m *machine) begin(t task) {
	if m.Steps <= 0 {
		m.trap(api.Fuel)
		return
	}
	m.Steps--
	m.lay(t)
}

// drop ends the last task.
func (m *machine) drop() { m.work = m.work[:len(m.work)-1] }

func (m *machine) push(v value) { m.values = append(m.values, v) }

func (m *machine) pop() value { return m.take(1)[0] }

// take is the last values, which are gone from the machine: they hold till the next push.
func (m *machine) take(n int) []value {
	rest := len(m.values) - n
	last := m.values[rest:]
	m.values = m.values[:rest]
	return last
}

// made is a new object, if there is room for its parts.
func (m *machine) made(o object, parts int64) value {
	// Beside parts there is 1 to be taken, but their sum may be beyond the greatest number.
	if parts >= int64(m.Parts) {
		return m.trap(api.Heap)
	}
	m.Parts -= int(parts) + 1
	return value{ref: &o}
}

// enter calls a method, if it isn't too deep.
func (m *machine) enter(code *ast.Method, this value, args []value) {
	if m.Deep <= 0 {
		m.trap(api.Deep)
		return
	}
	m.Deep--
	f := &frame{machine: m, up: m.top, this: this, tasks: len(m.work)}
	for i, p := range code.Params {
		f.put(p.Name, args[i])
	}
	m.lay(task{block: &code.Body})
	m.top = f
}

// method is the method that a class has by a name, its own or from above.
func (m *machine) method(who member) *ast.Method {
	if code := m.methods[who]; code != nil {
		return code
	}
	owner, _, _ := m.Method(who.class, who.name, who.static)
	code := own(m.classes[owner], who.name)
	m.methods[who] = code
	return code
}

// own is a class's own method; one that does nothing, if it isn't there, as in no class that was checked beside this table.
func own(c *ast.Class, name string) *ast.Method {
	if c != nil {
		for i := range c.Methods {
			if c.Methods[i].Name == name {
				return &c.Methods[i]
			}
		}
	}
	return &ast.Method{}
}

// kind is what is known of a class.
func (m *machine) kind(class string) *kind {
	if k := m.kinds[class]; k != nil {
		return k
	}
	k := &kind{name: class}
	k.above, _ = m.Above(class)
	for _, name := range k.above {
		f, _ := m.Face(name)
		k.size += len(f.Fields)
	}
	m.kinds[class] = k
	return k
}
