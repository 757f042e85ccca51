package link_test

import (
	"math/rand"
	"slices"
	"strconv"
	"testing"

	"kiln/api"
	"kiln/ast"
	"kiln/chance"
	"kiln/class"
	"kiln/face"
	"kiln/hier"
	"kiln/link"
)

// model is files told as plainly as the document does, each call in the words of the chapter.
type model struct {
	*hier.Table
	list []class.File
}

func modelOf(list []class.File) model {
	var faces []face.Face
	for _, f := range list {
		faces = append(faces, f.Face)
	}
	return model{hier.New(faces...), list}
}

func (m model) link() api.Errno {
	if len(m.list) > 200 {
		return api.ErrMany
	}
	for i, f := range m.list {
		if !f.Right() {
			return api.ErrForm
		}
		if slices.Contains(names(m.list[:i]), f.Name) {
			return api.ErrTwice
		}
	}
	for _, f := range m.list {
		if e := m.Check(f.Name); e != api.OK {
			return e
		}
		if !m.whole(f.Pool) {
			return api.ErrLink
		}
	}
	return api.OK
}

func (m model) whole(p class.Pool) bool {
	for _, name := range p.Classes {
		if !m.Known(ast.Of(name)) {
			return false
		}
	}
	for _, x := range p.Types {
		if !m.Known(x) {
			return false
		}
	}
	for _, x := range p.Fields {
		if _, kind, there := m.Field(x.Class, x.Name); !there || kind != x.Type {
			return false
		}
	}
	for _, x := range p.Methods {
		if m.find(x) == "" {
			return false
		}
	}
	return true
}

func (m model) find(x class.Method) string {
	above, _ := m.Above(x.Class)
	for _, name := range above {
		f, _ := m.Face(name)
		for _, s := range f.Methods {
			if s.Same(x.Sig) {
				return name
			}
		}
	}
	return ""
}

func (m model) fields(name string) []string {
	above, _ := m.Above(name)
	var all []string
	for _, name := range slices.Backward(above) {
		f, _ := m.Face(name)
		for _, x := range f.Fields {
			all = append(all, x.Name)
		}
	}
	return all
}

// held holds an image against the model, by all that the model's files name.
func held(t *testing.T, m *link.Image, like model) {
	t.Helper()
	if !slices.Equal(m.Names(), names(like.list)) {
		t.Fatal(m.Names())
	}
	for _, f := range like.list {
		if got, there := m.File(f.Name); !there || !same(got, f) {
			t.Fatalf("%s: %+v", f.Name, got)
		}
		fields := like.fields(f.Name)
		if got := m.Size(f.Name); got != len(fields) {
			t.Fatal(f.Name, got, fields)
		}
		for _, o := range like.list {
			for _, x := range o.Face.Fields {
				if got := m.Slot(f.Name, x.Name); got != slices.Index(fields, x.Name) {
					t.Fatal(f.Name, x.Name, got, fields)
				}
			}
			for _, s := range o.Face.Methods {
				x := method(f.Name, s)
				if got, there := m.Find(x); got != like.find(x) || there != (got != "") {
					t.Fatal(x, got, there)
				}
			}
		}
		for i, s := range f.Face.Methods {
			if got, there := m.Body(f.Name, s.Name); !there || !sameBody(got, f.Bodies[i]) {
				t.Fatal(f.Name, s.Name, got)
			}
		}
	}
}

const seeds = uint64(300)

// P14.1, P14.2: what layer 13 makes of classes that are right beside each other fits together, in any order.
func TestCompiledFits(t *testing.T) {
	for seed := range seeds {
		list := chance.Files(seed)
		for range 2 {
			for range list {
				list = append(list[1:len(list):len(list)], list[0])
				held(t, fits(t, "compiled", api.OK, list...), modelOf(list))
			}
			slices.Reverse(list)
		}
	}
}

// certain tells whether the chapter leaves no doubt: all types of the fields and methods that pools name are Known.
func certain(m model) bool {
	for _, f := range m.list {
		for _, x := range f.Pool.Fields {
			if !m.Known(x.Type) {
				return false
			}
		}
		for _, x := range f.Pool.Methods {
			if !m.Known(x.Ret) || !m.Known(x.Params...) {
				return false
			}
		}
	}
	return true
}

// P14.1: where one of the files is left out the others fit together just if nothing of it is named.
func TestOneLeftOut(t *testing.T) {
	came := map[api.Errno]int{}
	for seed := range seeds {
		list := chance.Files(seed)
		for i := range list {
			rest := slices.Delete(slices.Clone(list), i, i+1)
			like := modelOf(rest)
			if !certain(like) {
				continue
			}
			want := like.link()
			fits(t, list[i].Name, want, rest...)
			came[want]++
		}
	}
	if came[api.OK] == 0 || came[api.ErrName] == 0 || came[api.ErrLink] == 0 {
		t.Error(came)
	}
}

// one is any of a list.
func one[T any](r *rand.Rand, list ...T) T { return list[r.Intn(len(list))] }

// turn makes something else out of a part of a file; nothing, if it has no such part.
func turn(r *rand.Rand, f *class.File) {
	kinds := []ast.Type{ast.Int(), ast.Bool(), ast.Of("A"), ast.Of("B"), array("A"), array("int"), ast.Of("None")}
	classes := []string{"A", "B", "C", "Main", "None"}
	members := []string{"a0", "b0", "am0", "bm0", "go", "none"}
	switch p := &f.Pool; r.Intn(10) {
	case 0:
		f.Super = one(r, append(classes, "")...)
	case 1:
		f.Name = one(r, classes...)
	case 2:
		p.Classes = append(slices.Clone(p.Classes), one(r, classes...))
	case 3:
		p.Types = append(slices.Clone(p.Types), one(r, kinds...))
	case 4:
		p.Fields = append(slices.Clone(p.Fields), field(one(r, classes...), one(r, members...), one(r, kinds...)))
	case 5:
		p.Methods = append(slices.Clone(p.Methods), method(one(r, classes...), sig(one(r, members...), one(r, true, false), one(r, kinds...))))
	case 6:
		if len(p.Fields) > 0 {
			p.Fields = slices.Clone(p.Fields)
			p.Fields[r.Intn(len(p.Fields))].Class = one(r, classes...)
		}
	case 7:
		if len(p.Methods) > 0 {
			p.Methods = slices.Clone(p.Methods)
			p.Methods[r.Intn(len(p.Methods))].Class = one(r, classes...)
		}
	case 8:
		if len(f.Face.Fields) > 0 {
			f.Face.Fields = slices.Clone(f.Face.Fields)
			f.Face.Fields[0] = ast.Var{Name: one(r, members...), Type: one(r, kinds...)}
		}
	case 9:
		if len(f.Face.Methods) > 0 {
			f.Face.Methods = slices.Clone(f.Face.Methods)
			f.Face.Methods[0].Static = !f.Face.Methods[0].Static
		}
	}
}

// P14.1, P14.2: files with some of their parts turned, against the model.
func TestTurned(t *testing.T) {
	r := rand.New(rand.NewSource(14))
	came := map[api.Errno]int{}
	for seed := range seeds {
		made := chance.Files(seed)
		for range 20 {
			list := slices.Clone(made)
			r.Shuffle(len(list), func(i, j int) { list[i], list[j] = list[j], list[i] })
			for range 1 + r.Intn(2) {
				turn(r, &list[r.Intn(len(list))])
			}
			like := modelOf(list)
			want := like.link()
			if want != api.ErrForm && want != api.ErrTwice && !certain(like) {
				continue
			}
			came[want]++
			if m := fits(t, strconv.FormatUint(seed, 10), want, list...); m != nil {
				held(t, m, like)
			}
		}
	}
	for _, e := range []api.Errno{api.OK, api.ErrForm, api.ErrTwice, api.ErrName, api.ErrCycle, api.ErrOver, api.ErrLink} {
		if came[e] == 0 {
			t.Error("never", e, came)
		}
	}
}
