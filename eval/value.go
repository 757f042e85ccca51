package eval

import "slices"

// value is a number, true (1) or false (0), an object, an array, or nothing. The zero value is what is there where nothing was put: 0, false, nothing.
type value struct {
	num int64
	ref *object
}

// object is an object, or an array. Of its parts those are kept that something was put in: an array may have more of them than memory has room for.
type object struct {
	*kind
	length int64
	fields map[string]value
	parts  map[int64]value
}

// kind is what is known of a class whose objects there are.
type kind struct {
	name  string
	above []string
	size  int // fields, its own and from above
}

func number(n int64) value { return value{num: n} }

func truth(yes bool) value {
	if yes {
		return number(1)
	}
	return number(0)
}

func (v value) yes() bool { return v.num != 0 }

// below tells whether a value is an object of a class, or of one below it.
func (v value) below(class string) bool {
	return v.ref != nil && slices.Contains(v.ref.above, class)
}

// has tells whether there is a part of that number.
func (o *object) has(i int64) bool { return 0 <= i && i < o.length }

func (o *object) putField(name string, v value) {
	if o.fields == nil {
		o.fields = map[string]value{}
	}
	o.fields[name] = v
}

func (o *object) putPart(i int64, v value) {
	if o.parts == nil {
		o.parts = map[int64]value{}
	}
	o.parts[i] = v
}

func numbers(list []int64) []value {
	var all []value
	for _, n := range list {
		all = append(all, number(n))
	}
	return all
}
