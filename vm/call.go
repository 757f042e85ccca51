package vm

import (
	"kiln/api"
	"kiln/class"
)

// call calls a method with the last words: that of its class if it is static, else that of the first word's own.
func (m *machine) call(x *class.Method, static bool) {
	if static {
		m.enter(m.method(x, x.Class), m.take(len(x.Params)))
		return
	}
	words := m.take(len(x.Params) + 1)
	if o := m.some(words[0]); o != nil {
		m.enter(m.method(x, o.name), words)
	}
}

// method is the code that a class has for a method, its own or from above; nil, if it has none.
func (m *machine) method(x *class.Method, of string) *code {
	who := target{x, of}
	if c := m.codes[who]; c != nil {
		return c
	}
	owner, there := m.Find(class.Method{Sig: x.Sig, Class: of})
	if !there {
		return nil
	}
	f, _ := m.File(owner)
	body, _ := m.Image.Body(owner, x.Name)
	c := &code{Pool: f.Pool, Body: body}
	m.codes[who] = c
	return c
}

// enter begins a call, if it isn't too deep. The words that it is called with are its first locals.
func (m *machine) enter(c *code, words []word) {
	if c == nil {
		m.stuck = true
		return
	}
	if m.Deep <= 0 {
		m.trap(api.Deep)
		return
	}
	m.Deep--
	f := &frame{code: c, up: m.frame, locals: make([]word, c.Locals), floor: len(m.words)}
	copy(f.locals, words)
	m.frame = f
}

// leave ends the call that runs: the one that waited for it goes on with its word.
func (m *machine) leave(w word) {
	m.words = m.words[:m.floor]
	m.frame = m.up
	m.Deep++
	m.push(w)
}
