package hier_test

import (
	"math/rand"
	"reflect"
	"slices"
	"testing"

	"kiln/api"
	"kiln/ast"
	"kiln/face"
	"kiln/hier"
)

// model is a table told as plainly as the document does: a list of faces, each call in the words of the chapter.
type model struct {
	list  []face.Face
	asked map[string]int
}

func (m *model) face(name string) (face.Face, bool) {
	m.asked[name]++
	for _, f := range slices.Backward(m.list) {
		if f.Name == name {
			return f, true
		}
	}
	return face.Face{}, false
}

func (m *model) above(name string) ([]string, bool) {
	if name == "" {
		return nil, true
	}
	var all []string
	for {
		f, ok := m.face(name)
		if !ok || slices.Contains(all, name) {
			return all, false
		}
		all = append(all, name)
		if f.Super == "" {
			return all, true
		}
		name = f.Super
	}
}

func (m *model) below(name, other string) bool {
	all, _ := m.above(name)
	return slices.Contains(all, other)
}

func (m *model) common(a, b string) string {
	all, _ := m.above(a)
	for _, name := range all {
		if m.below(b, name) {
			return name
		}
	}
	return ""
}

func (m *model) field(class, name string) (string, ast.Type, bool) {
	all, _ := m.above(class)
	for _, c := range all {
		f, _ := m.face(c)
		if i := slices.IndexFunc(f.Fields, func(v ast.Var) bool { return v.Name == name }); i >= 0 {
			return c, f.Fields[i].Type, true
		}
	}
	return "", ast.Type{}, false
}

func (m *model) method(class, name string, static bool) (string, face.Sig, bool) {
	all, _ := m.above(class)
	for _, c := range all {
		f, _ := m.face(c)
		if i := slices.IndexFunc(f.Methods, func(s face.Sig) bool { return s.Name == name }); i >= 0 && f.Methods[i].Static == static {
			return c, f.Methods[i], true
		}
	}
	return "", face.Sig{}, false
}

func (m *model) known(t ast.Type) bool {
	if t.Name == "int" || t.Name == "bool" {
		return true
	}
	if t.Name < "A" || t.Name >= "[" || len(t.Name) > api.MaxName {
		return false
	}
	_, ok := m.face(t.Name)
	return ok
}

func (m *model) fits(from, to ast.Type) bool {
	if from == to {
		return true
	}
	if from == ast.Nothing() {
		return to.Object()
	}
	return from.Class() && to.Class() && m.below(from.Name, to.Name)
}

// check goes through all that the chapter names, and tells the first one.
func (m *model) check(name string) api.Errno {
	all, whole := m.above(name)
	if len(all) == 0 {
		return api.ErrName
	}
	f, _ := m.face(name)
	if !whole {
		last, _ := m.face(all[len(all)-1])
		if slices.Contains(all, last.Super) {
			return api.ErrCycle
		}
		return api.ErrName
	}
	var faults []api.Errno
	tell := func(e api.Errno, is bool) {
		if is {
			faults = append(faults, e)
		}
	}
	for i := range f.Fields {
		tell(api.ErrTwice, i > 0 && f.Fields[i].Name == f.Fields[i-1].Name)
	}
	for i := range f.Methods {
		tell(api.ErrTwice, i > 0 && f.Methods[i].Name == f.Methods[i-1].Name)
	}
	for _, x := range f.Fields {
		tell(api.ErrName, !m.known(x.Type))
		_, _, is := m.field(f.Super, x.Name)
		tell(api.ErrTwice, is)
	}
	for _, s := range f.Methods {
		for _, t := range append([]ast.Type{s.Ret}, s.Params...) {
			tell(api.ErrName, !m.known(t))
		}
		_, o, is := m.method(f.Super, s.Name, false)
		tell(api.ErrOver, !s.Static && is && !o.Same(s))
	}
	return append(faults, api.OK)[0]
}

var (
	classes = []string{"A", "B", "C", "D", "E", "F", "G", "None"}
	types   = []ast.Type{ast.Int(), ast.Bool(), array("int"), ast.Of("A"), ast.Of("B"), ast.Of("C"), array("A"), array("B"), ast.Of("D"), ast.Of("None"), array("None"), ast.Nothing(), {}, array("null")}
)

// makeFaces makes faces by chance, most of them of what a text can be, some not.
func makeFaces(r *rand.Rand) []face.Face {
	pick := func(n int) ast.Type { return types[r.Intn(n)] }
	var list []face.Face
	for i := range 1 + r.Intn(9) {
		f := face.Face{Name: classes[i%7]}
		if r.Intn(4) > 0 {
			f.Super = classes[r.Intn(max(i%7, 1))]
		}
		if r.Intn(9) == 0 {
			f.Super = classes[r.Intn(8)]
		}
		kinds := []int{4, 9, 14}[r.Intn(3)]
		for range r.Intn(3) {
			f.Fields = append(f.Fields, field(string(rune('a'+r.Intn(9))), pick(kinds)))
		}
		for range r.Intn(3) {
			s := face.Sig{Name: string(rune('m' + r.Intn(4))), Static: r.Intn(3) == 0, Ret: pick(min(kinds, 2+r.Intn(12)))}
			for range r.Intn(2) {
				s.Params = append(s.Params, pick(kinds))
			}
			f.Methods = append(f.Methods, s)
		}
		list = append(list, f)
	}
	return list
}

// seen is what was asked for since the last time, in order, but for no name.
func (m *model) seen() []string {
	var all []string
	for name := range m.asked {
		if name != "" {
			all = append(all, name)
		}
	}
	slices.Sort(all)
	m.asked = map[string]int{}
	return all
}

// P8.1 to P8.4: tables by chance, held against the model, call by call, with what each looked at.
func TestAgainstModel(t *testing.T) {
	r := rand.New(rand.NewSource(12))
	count := map[api.Errno]int{}
	for range 3000 {
		list := makeFaces(r)
		m, tab := &model{list: list, asked: map[string]int{}}, hier.New(list...)
		hold := func(what string, got, want []any) {
			t.Helper()
			if !reflect.DeepEqual(got, want) {
				t.Fatalf("%+v: %s: %v, not %v", list, what, got, want)
			}
			if a, b := seen(tab), m.seen(); !slices.Equal(a, b) {
				t.Fatalf("%+v: %s looked at %v, not at %v", list, what, a, b)
			}
		}
		for _, a := range append(classes, "", "a") {
			f, ok := tab.Face(a)
			g, is := m.face(a)
			hold("Face "+a, []any{f, ok}, []any{g, is})
			all, ok := tab.Above(a)
			want, is := m.above(a)
			hold("Above "+a, []any{all, ok}, []any{want, is})
			for _, b := range classes {
				hold("Below "+a+b, []any{tab.Below(a, b)}, []any{m.below(a, b)})
				hold("Common "+a+b, []any{tab.Common(a, b)}, []any{m.common(a, b)})
			}
			name := string(rune('a' + r.Intn(9)))
			c, x, ok := tab.Field(a, name)
			d, y, is := m.field(a, name)
			hold("Field "+a+name, []any{c, x, ok}, []any{d, y, is})
			name = string(rune('m' + r.Intn(4)))
			static := r.Intn(2) == 0
			c, s, ok := tab.Method(a, name, static)
			d, o, is := m.method(a, name, static)
			hold("Method "+a+name, []any{c, s, ok}, []any{d, o, is})
			e := m.check(a)
			if got := tab.Check(a); got != e {
				t.Fatalf("%+v: Check %s: %d, not %d", list, a, got, e)
			}
			count[e]++
			// Behind a fault Check need look at nothing more, so there is no one answer to hold it against.
			if got := m.seen(); e == api.OK && !slices.Equal(seen(tab), got) {
				t.Fatalf("%+v: Check %s didn't look at %v", list, a, got)
			}
			tab.Seen()
		}
		for _, from := range types {
			hold("Known "+from.Text(), []any{tab.Known(from)}, []any{m.known(from)})
			for _, to := range types {
				hold("Fits "+from.Text()+" "+to.Text(), []any{tab.Fits(from, to)}, []any{m.fits(from, to)})
			}
		}
	}
	for _, e := range []api.Errno{api.OK, api.ErrName, api.ErrCycle, api.ErrTwice, api.ErrOver} {
		if count[e] < 200 {
			t.Error(e, count[e])
		}
	}
}
