package vm

import "slices"

// word is a number, yes (1) or no (0), an object, an array, or nothing. The zero word is what is there where nothing was put: 0, no, nothing.
type word struct {
	num int64
	ref *object
}

// object is an object, whose parts are its fields by their slots, or an array. Those parts are kept that something was put in: there may be more than memory has room for.
type object struct {
	*kind
	length int64 // of an array
	parts  map[int64]word
}

// kind is what is known of a class whose objects there are. That of an array is no class's.
type kind struct {
	name  string
	above []string
	size  int
}

func number(n int64) word { return word{num: n} }

func truth(yes bool) word {
	if yes {
		return number(1)
	}
	return number(0)
}

func (w word) yes() bool { return w.num != 0 }

// below tells whether a word is an object of a class, or of one below it.
func (w word) below(class string) bool {
	return w.ref != nil && slices.Contains(w.ref.above, class)
}

func (o *object) put(i int64, w word) {
	if o.parts == nil {
		o.parts = map[int64]word{}
	}
	o.parts[i] = w
}

func numbers(list []int64) []word {
	var all []word
	for _, n := range list {
		all = append(all, number(n))
	}
	return all
}
