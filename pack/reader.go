package pack

import "kiln/api"

// Reader reads what was laid, up to a first error.
type Reader struct {
	rest string
	bad  bool
}

// Read is a reader of bytes.
func Read(s string) *Reader { return &Reader{rest: s} }

// Num is a number up to most.
func (r *Reader) Num(most int) int {
	if !r.OK() {
		return 0
	}
	n, size := first(r.rest)
	if size == 0 || n > max(most, 0) {
		r.fail()
		return 0
	}
	r.rest = r.rest[size:]
	return n
}

// Text is a text of so many bytes at most.
func (r *Reader) Text(most int) string {
	n := r.Many(most)
	if !r.OK() {
		return ""
	}
	text := r.rest[:n]
	r.rest = r.rest[n:]
	return text
}

// Flag is yes or no.
func (r *Reader) Flag() bool { return r.Num(1) == 1 }

// Int is a number with a sign.
func (r *Reader) Int() int64 {
	upper := r.Num(mostWord)
	lower := r.Num(mostWord)
	if !r.OK() {
		return 0
	}
	return signed(uint64(upper)<<wordBits | uint64(lower))
}

// Many is how many parts there are, most at most: each has one byte at least.
func (r *Reader) Many(most int) int {
	n := r.Num(most)
	if r.OK() && n > len(r.rest) {
		r.fail()
		return 0
	}
	return n
}

// OK tells whether there was no error; Done whether nothing is left, either.
func (r *Reader) OK() bool { return r != nil && !r.bad }

// Done is ErrForm, if there was an error, or something is left.
func (r *Reader) Done() api.Errno {
	if !r.OK() || r.rest != "" {
		return api.ErrForm
	}
	return api.OK
}

func (r *Reader) fail() { r.rest, r.bad = "", true }

// first is the number at the beginning of a text, and how many bytes it has; of none these are 0.
func first(s string) (int, int) {
	n := 0
	for i := range min(len(s), mostBytes) {
		n |= int(s[i]&lowBits) << (bitsPerByte * i)
		if s[i]&moreBit != 0 {
			continue
		}
		// A last byte of 0 behind others would be one byte more than the number needs.
		if s[i] == 0 && i > 0 {
			return 0, 0
		}
		return n, i + 1
	}
	return 0, 0
}

func signed(u uint64) int64 {
	half := int64(u / 2)
	if u%2 == 1 {
		return -half - 1
	}
	return half
}
