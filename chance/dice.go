package chance

// dice is numbers that look like chance, but are the same of one seed.
type dice struct {
	state uint64
}

func (d *dice) next() uint64 {
	d.state += 0x9e3779b97f4a7c15
	x := d.state
	x = (x ^ x>>30) * 0xbf58476d1ce4e5b9
	x = (x ^ x>>27) * 0x94d049bb133111eb
	return x ^ x>>31
}

// below is a number from 0 on.
func (d *dice) below(n int) int { return int(d.next() % uint64(n)) }

// one is true once in so many times.
func (d *dice) one(in int) bool { return d.below(in) == 0 }

func pick[T any](d *dice, list ...T) T { return list[d.below(len(list))] }
