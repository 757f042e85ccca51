package vm

import (
	"kiln/api"
	"kiln/op"
)

func (m *machine) do(i op.Instr) {
	switch i.Code {
	case op.Int:
		m.push(number(m.Nums[i.A]))
	case op.Zero:
		m.push(truth(i.A == 1))
	case op.Null:
		m.push(word{})
	case op.Local:
		m.push(m.locals[i.A])
	case op.Store:
		m.locals[i.A] = m.pop()
	case op.Jump:
		m.at = i.A
	case op.Unless:
		if !m.pop().yes() {
			m.at = i.A
		}
	case op.Print:
		m.Out = append(m.Out, m.pop().num)
	case op.Pop:
		m.pop()
	case op.Neg:
		m.push(number(-m.pop().num))
	case op.Not:
		m.push(truth(!m.pop().yes()))
	case op.Get, op.Put, op.New, op.Cast, op.Is:
		m.object(i)
	case op.Array, op.Load, op.Save, op.Length:
		m.array(i.Code)
	default:
		words := m.take(2)
		m.push(m.two(i.Code, words[0], words[1]))
	}
}

// two is what comes of two words.
func (m *machine) two(c op.Code, a, b word) word {
	switch c {
	case op.Add:
		return number(a.num + b.num)
	case op.Sub:
		return number(a.num - b.num)
	case op.Mul:
		return number(a.num * b.num)
	case op.Less:
		return truth(a.num < b.num)
	case op.Most:
		return truth(a.num <= b.num)
	case op.Same:
		return truth(a.num == b.num)
	case op.Other:
		return truth(a.ref == b.ref)
	}
	if b.num == 0 {
		return m.trap(api.Zero)
	}
	if c == op.Div {
		return number(a.num / b.num)
	}
	return number(a.num % b.num)
}
