package vm

import (
	"kiln/api"
	"kiln/class"
	"kiln/op"
)

func (m *machine) object(i op.Instr) {
	switch i.Code {
	case op.Get:
		if o := m.some(m.pop()); o != nil {
			m.push(o.parts[m.slot(&m.Fields[i.A])])
		}
	case op.Put:
		words := m.take(2)
		if o := m.some(words[0]); o != nil {
			o.put(m.slot(&m.Fields[i.A]), words[1])
		}
	case op.New:
		k := m.kind(m.Classes[i.A])
		m.create(object{kind: k}, int64(k.size))
	case op.Cast:
		w := m.pop()
		if w.ref != nil && !w.below(m.Classes[i.A]) {
			m.trap(api.Cast)
		}
		m.push(w)
	case op.Is:
		m.push(truth(m.pop().below(m.Classes[i.A])))
	}
}

func (m *machine) array(c op.Code) {
	switch c {
	case op.Array:
		n := m.pop().num
		if n < 0 {
			m.trap(api.Index)
			return
		}
		m.create(object{kind: m.kind(""), length: n}, n)
	case op.Load:
		words := m.take(2)
		if o := m.parted(words[0], words[1].num); o != nil {
			m.push(o.parts[words[1].num])
		}
	case op.Save:
		words := m.take(3)
		if o := m.parted(words[0], words[1].num); o != nil {
			o.put(words[1].num, words[2])
		}
	case op.Length:
		if o := m.some(m.pop()); o != nil {
			m.push(number(o.length))
		}
	}
}

// some is the object, or array, that a word is; nil, and the trap, if it is nothing.
func (m *machine) some(w word) *object {
	if w.ref == nil {
		m.trap(api.Null)
	}
	return w.ref
}

// parted is an array that has a part of that number; nil, and the trap, if it isn't there, or hasn't.
func (m *machine) parted(w word, i int64) *object {
	o := m.some(w)
	if o != nil && (i < 0 || i >= o.length) {
		m.trap(api.Index)
		return nil
	}
	return o
}

// create lays a new object, if there is room for its parts.
func (m *machine) create(o object, parts int64) {
	// It takes one more than its parts, but that may be beyond the greatest number.
	if parts >= int64(m.Parts) {
		m.trap(api.Heap)
		return
	}
	m.Parts -= int(parts) + 1
	m.push(word{ref: &o})
}

// slot is at which place a field is, in the objects of its class as in those of all below it.
func (m *machine) slot(x *class.Field) int64 {
	i, asked := m.slots[x]
	if !asked {
		i = int64(m.Slot(x.Class, x.Name))
		m.slots[x] = i
	}
	return i
}

// kind is what is known of a class; of no class that there is nothing above it, and nothing in it.
func (m *machine) kind(class string) *kind {
	if k := m.kinds[class]; k != nil {
		return k
	}
	k := &kind{name: class, size: m.Size(class)}
	k.above, _ = m.Above(class)
	m.kinds[class] = k
	return k
}
