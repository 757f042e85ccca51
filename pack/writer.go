package pack

// Writer lays numbers and texts.
type Writer struct{ b []byte }

// Num lays a number that isn't below nought: seven bits each, the lowest ones first.
func (w *Writer) Num(list ...int) *Writer {
	for _, n := range list {
		w.lay(n)
	}
	return w
}

// Text lays texts: how many bytes each has, and these.
func (w *Writer) Text(list ...string) *Writer {
	for _, text := range list {
		w.lay(len(text))
		w.add(text)
	}
	return w
}

// Flag lays yes or no.
func (w *Writer) Flag(list ...bool) *Writer {
	for _, yes := range list {
		if yes {
			w.lay(1)
		} else {
			w.lay(0)
		}
	}
	return w
}

// Int lays numbers with signs.
func (w *Writer) Int(list ...int64) *Writer {
	for _, n := range list {
		u := unsigned(n)
		w.lay(int(u >> wordBits))
		w.lay(int(u & mostWord))
	}
	return w
}

// String is all that was laid.
func (w *Writer) String() string {
	if w == nil {
		return ""
	}
	return string(w.b)
}

// lay leaves a nil Writer as it is, as add does, so that no call panics.
func (w *Writer) lay(n int) {
	if w == nil {
		return
	}
	for n = max(n, 0); n > lowBits; n >>= bitsPerByte {
		w.b = append(w.b, byte(n&lowBits)|moreBit)
	}
	w.b = append(w.b, byte(n))
}

func (w *Writer) add(text string) {
	if w != nil {
		w.b = append(w.b, text...)
	}
}

// unsigned holds for the least number too: -2n is 0 with what is above left off, and 0 less 1 is the greatest.
func unsigned(n int64) uint64 {
	twice := 2 * uint64(n)
	if n < 0 {
		return -twice - 1
	}
	return twice
}
