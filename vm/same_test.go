package vm_test

import (
	"sort"
	"testing"

	"kiln/api"
	"kiln/chance"
	"kiln/eval"
	"kiln/vm"
)

// wants tells whether a program ended for want of something.
func wants(x api.Trap) bool { return x == api.Fuel || x == api.Heap || x == api.Deep }

func seeds() uint64 {
	if testing.Short() {
		return 100
	}
	return 600
}

// P16.3: the code of right classes ends as they mean, with as many parts and calls, and four times as many steps, and eight.
func TestCodeIsWhatClassesMean(t *testing.T) {
	ends := map[api.Trap]int{}
	for seed := range seeds() {
		p := made(t, chance.Texts(seed)...)
		for _, args := range [][]int64{{0, 1}, {3, -2}, {7, 1 << 40}} {
			b := eval.Bounds{Steps: 5000, Parts: 3000, Deep: 40}
			want, e := eval.Run(p.tab, p.list, "Main", "go", args, b)
			if e != api.OK {
				t.Fatal(seed, e)
			}
			ends[want.Trap]++
			if wants(want.Trap) {
				continue
			}
			b.Steps = sort.Search(b.Steps, func(n int) bool {
				r, _ := eval.Run(p.tab, p.list, "Main", "go", args, eval.Bounds{Steps: n, Parts: b.Parts, Deep: b.Deep})
				return r.Trap != api.Fuel
			})
			b.Steps = 4*b.Steps + 8
			if r := ran(t, p.img, "Main", "go", b, args...); !r.Same(want) {
				t.Fatal(seed, args, r, want)
			}
		}
	}
	for _, x := range []api.Trap{api.NoTrap, api.Null, api.Index, api.Zero, api.Cast} {
		if ends[x] < 3 {
			t.Error("trap", x, ends[x])
		}
	}
}

// P16.3: within whatever bounds: if neither ends for want of something, they come to the same; and as long as both go on they print the same.
func TestWithinBounds(t *testing.T) {
	ends := map[[2]bool]int{}
	for seed := range seeds() {
		p := made(t, chance.Texts(seed)...)
		for i, n := range []int{0, 1, 10, 40, 100, 300, 1000, 5000} {
			a, b := eval.Bounds{Steps: n, Parts: 50, Deep: 5}, eval.Bounds{Steps: 5000, Parts: n, Deep: 1 + i}
			for range 2 {
				x, _ := eval.Run(p.tab, p.list, "Main", "go", []int64{5, 2}, a)
				y, e := vm.Run(p.img, "Main", "go", []int64{5, 2}, b)
				if e != api.OK {
					t.Fatal(seed, e)
				}
				ends[[2]bool{wants(x.Trap), wants(y.Trap)}]++
				if !wants(x.Trap) && !wants(y.Trap) && !x.Same(y) {
					t.Fatal(seed, n, x, y)
				}
				for j := range min(len(x.Out), len(y.Out)) {
					if x.Out[j] != y.Out[j] {
						t.Fatal(seed, n, x, y)
					}
				}
				a, b = b, a
			}
		}
	}
	if len(ends) != 4 {
		t.Error(ends)
	}
}
