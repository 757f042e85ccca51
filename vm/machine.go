package vm

import (
	"kiln/api"
	"kiln/class"
	"kiln/eval"
	"kiln/link"
	"kiln/op"
)

// machine is what all calls of a program share, and the call that runs. Its Bounds are what is left of them. Behind a trap it stands still; so it does where it is stuck, as no code is that layer 15 lets.
//
// Calls that wait are a list of frames, not on Go's stack, which ends a program that is too deep: here Deep and Steps alone do.
type machine struct {
	*link.Image
	eval.Bounds
	eval.Result
	*frame
	words []word // the stacks of all calls, each on that of the one that waits for it
	stuck bool

	// What the image told is kept, for it goes through the classes above each time.
	kinds map[string]*kind
	slots map[*class.Field]int64
	codes map[target]*code
}

// frame is a call that is under way, and the one that waits for it.
type frame struct {
	*code
	up     *frame
	at     int
	locals []word
	floor  int // how many words are those of calls that wait
}

// code is a method's instructions, and what they name by numbers.
type code struct {
	class.Pool
	class.Body
}

// target is a method as it is asked of a class.
type target struct {
	what *class.Method
	of   string
}

func newMachine(img *link.Image, b eval.Bounds) *machine {
	return &machine{
		Image:  img,
		Bounds: b,
		kinds:  map[string]*kind{},
		slots:  map[*class.Field]int64{},
		codes:  map[target]*code{},
	}
}

// run goes on till the first call is left, there is a trap, or nothing can go on.
func (m *machine) run() {
loop:
	for m.goesOn() {
		i := m.Code[m.at]
		m.at++
		m.Steps--
		switch i.Code {
		case op.Call, op.Static:
			m.call(&m.Methods[i.A], i.Code == op.Static)
		case op.Return:
			w := m.pop()
			if m.up == nil {
				m.Num = w.num
				break loop
			}
			m.leave(w)
		default:
			m.do(i)
		}
	}
}

// goesOn tells whether there is an instruction more, and a step for it.
func (m *machine) goesOn() bool {
	switch {
	case m.stuck || m.Trap != api.NoTrap:
		return false
	case m.at >= len(m.Code):
		m.stuck = true
		return false
	case m.Steps <= 0:
		m.trap(api.Fuel)
		return false
	}
	return true
}

// trap keeps the trap; the word stands for the one that there won't be.
func (m *machine) trap(t api.Trap) word {
	m.Trap = t
	return word{}
}

func (m *machine) push(w word) { m.words = append(m.words, w) }

func (m *machine) pop() word { return m.take(1)[0] }

// take is the last words, which are gone from the stack: they hold till the next push.
func (m *machine) take(n int) []word {
	rest := len(m.words) - n
	if rest < m.floor {
		m.stuck = true
		return make([]word, n)
	}
	last := m.words[rest:]
	m.words = m.words[:rest]
	return last
}
