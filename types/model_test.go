package types_test

import (
	"math/rand"
	"reflect"
	"slices"
	"strconv"
	"testing"

	"kiln/api"
	"kiln/ast"
	"kiln/face"
	"kiln/hier"
	"kiln/lex"
	"kiln/types"
)

// model is layer 9 in the words of the chapter: a fault is a panic, each block has a copy of the locals.
type model struct {
	tab    *hier.Table
	class  string
	method ast.Method
	had    int
}

type locals map[string]ast.Type

func fail(when bool, e api.Errno, at api.Pos) {
	if when {
		panic(lex.Fault{E: e, At: at})
	}
}

func modelCheck(tab *hier.Table, c ast.Class) (got ast.Class, f lex.Fault) {
	defer func() {
		if x := recover(); x != nil {
			got, f = ast.Class{}, x.(lex.Fault)
		}
	}()
	own, there := tab.Face(c.Name)
	fail(!there || !own.Same(face.Of(c)), api.ErrArg, c.At)
	e := tab.Check(c.Name)
	fail(e != api.OK, e, c.At)
	got = c
	got.Methods = nil
	for _, x := range c.Methods {
		m := &model{tab: tab, class: c.Name, method: x}
		here := locals{}
		for _, p := range x.Params {
			m.bring(here, p.Name, p.Type, x.At)
		}
		x.Body = m.block(here, x.Body)
		got.Methods = append(got.Methods, x)
	}
	return got, lex.Fault{}
}

func (m *model) bring(here locals, name string, t ast.Type, at api.Pos) {
	_, twice := here[name]
	fail(twice, api.ErrTwice, at)
	fail(m.had >= api.MaxMembers, api.ErrMany, at)
	here[name] = t
	m.had++
}

func (m *model) block(outer locals, list []ast.Stmt) []ast.Stmt {
	here := locals{}
	for name, t := range outer {
		here[name] = t
	}
	var out []ast.Stmt
	for _, s := range list {
		fail(s.Does == ast.Let && !m.tab.Known(s.Type), api.ErrName, s.At)
		s.E = m.exprs(here, s.E)
		x := s.E[0]
		switch s.Does {
		case ast.Let:
			fail(!m.tab.Fits(x.Of, s.Type), api.ErrType, x.At)
			m.bring(here, s.Name, s.Type, s.At)
		case ast.Put:
			fail(!m.tab.Fits(s.E[1].Of, x.Of), api.ErrType, s.E[1].At)
		case ast.If, ast.While:
			fail(x.Of != ast.Bool(), api.ErrType, x.At)
			s.Then = m.block(here, s.Then)
			s.Else = m.block(here, s.Else)
		case ast.Return:
			fail(!m.tab.Fits(x.Of, m.method.Ret), api.ErrType, x.At)
		case ast.Print:
			fail(x.Of != ast.Int(), api.ErrType, x.At)
		}
		out = append(out, s)
	}
	return out
}

func (m *model) exprs(here locals, list []ast.Expr) []ast.Expr {
	var out []ast.Expr
	for _, e := range list {
		e.Kids = m.exprs(here, e.Kids)
		m.expr(here, &e)
		out = append(out, e)
	}
	return out
}

func (m *model) expr(here locals, e *ast.Expr) {
	of := func(i int) ast.Type { return e.Kids[i].Of }
	kid := func(i int, ok bool) { fail(!ok, api.ErrType, e.Kids[i].At) }
	none := func(there bool) { fail(!there, api.ErrName, e.At) }
	call := func(sig face.Sig, first int) {
		fail(len(e.Kids)-first != len(sig.Params), api.ErrCount, e.At)
		for i, p := range sig.Params {
			kid(first+i, m.tab.Fits(of(first+i), p))
		}
		e.Of = sig.Ret
	}
	var there bool
	var sig face.Sig
	switch e.Kind {
	case ast.Num:
		e.Of = ast.Int()
	case ast.True, ast.False:
		e.Of = ast.Bool()
	case ast.Null:
		e.Of = ast.Nothing()
	case ast.This:
		none(!m.method.Static)
		e.Of = ast.Of(m.class)
	case ast.Local:
		e.Of, there = here[e.Name]
		none(there)
	case ast.Get:
		kid(0, of(0).Class())
		e.Owner, e.Of, there = m.tab.Field(of(0).Name, e.Name)
		none(there)
	case ast.Call:
		kid(0, of(0).Class())
		e.Owner, sig, there = m.tab.Method(of(0).Name, e.Name, false)
		none(there)
		call(sig, 1)
	case ast.Static:
		none(m.tab.Known(e.Type))
		e.Owner, sig, there = m.tab.Method(e.Type.Name, e.Name, true)
		none(there)
		call(sig, 0)
	case ast.New:
		none(m.tab.Known(e.Type))
		e.Of = e.Type
	case ast.Array:
		kid(0, of(0) == ast.Int())
		none(m.tab.Known(e.Type))
		e.Of = ast.Type{Name: e.Type.Name, Array: true}
	case ast.Elem:
		kid(0, of(0).Array)
		kid(1, of(1) == ast.Int())
		e.Of = ast.Type{Name: of(0).Name}
	case ast.Length:
		kid(0, of(0).Array)
		e.Of = ast.Int()
	case ast.Neg:
		kid(0, of(0) == ast.Int())
		e.Of = ast.Int()
	case ast.Not:
		kid(0, of(0) == ast.Bool())
		e.Of = ast.Bool()
	case ast.And, ast.Or:
		kid(0, of(0) == ast.Bool())
		kid(1, of(1) == ast.Bool())
		e.Of = ast.Bool()
	case ast.As, ast.Is:
		kid(0, of(0).Class() || of(0) == ast.Nothing())
		none(m.tab.Known(e.Type))
		e.Of = e.Type
		if e.Kind == ast.Is {
			e.Of = ast.Bool()
		}
	case ast.Bin:
		m.bin(e)
	}
}

func (m *model) bin(e *ast.Expr) {
	a, b := e.Kids[0], e.Kids[1]
	if e.Name == "==" || e.Name == "!=" {
		fail(a.Of != b.Of && !(a.Of.Object() && b.Of.Object()), api.ErrType, e.At)
		e.Of = ast.Bool()
		return
	}
	fail(a.Of != ast.Int(), api.ErrType, a.At)
	fail(b.Of != ast.Int(), api.ErrType, b.At)
	e.Of = ast.Int()
	if e.Name[0] == '<' {
		e.Of = ast.Bool()
	}
}

// maker makes bodies by chance, that mostly mean something: it knows which locals there may be.
type maker struct {
	*rand.Rand
	tab    *hier.Table
	static bool
	ret    ast.Type
	there  []ast.Var
	places int
	wild   int // in 1000: how often something else is made than what is wanted
}

func (k *maker) at() api.Pos {
	k.places++
	return api.Pos{Line: k.places, Col: k.Intn(9) + 1}
}

func (k *maker) goesWild() bool { return k.Intn(1000) < k.wild }

func (k *maker) class() string {
	if k.goesWild() {
		return "None"
	}
	return []string{"A", "B", "C", "D", "T"}[k.Intn(5)]
}

func (k *maker) name() string {
	return []string{"x", "z", "b", "next", "list", "get", "sum", "self", "one", "twin", "m", "q0", "q1"}[k.Intn(13)]
}

func (k *maker) some() ast.Type {
	return ast.Type{Name: []string{"int", "bool", k.class()}[k.Intn(3)], Array: k.Intn(4) == 0}
}

// expr makes an expression that fits a type, or another one.
func (k *maker) expr(want ast.Type, deep int) ast.Expr {
	e := ast.Expr{At: k.at()}
	if k.goesWild() {
		want = k.some()
	}
	if k.goesWild() {
		k.any(&e, deep)
		return e
	}
	if k.Intn(3) > 0 && k.known(&e, want) || deep > 0 && k.Intn(3) > 0 && k.made(&e, want, deep-1) {
		return e
	}
	e = ast.Expr{At: e.At}
	switch {
	case want.Array && !k.goesWild():
		e.Kind, e.Type, e.Kids = ast.Array, want.Elem(), k.list(deep-1, ast.Int())
	case want.Class() && k.Intn(12) > 0:
		e.Kind, e.Type = ast.New, want
	case want == ast.Int():
		e.Kind, e.Num = ast.Num, int64(k.Intn(9))
	case want == ast.Bool():
		e.Kind = []ast.Kind{ast.True, ast.False}[k.Intn(2)]
	default:
		e.Kind = ast.Null
	}
	return e
}

func (k *maker) list(deep int, wants ...ast.Type) []ast.Expr {
	var out []ast.Expr
	for _, t := range wants {
		out = append(out, k.expr(t, deep))
	}
	return out
}

// known is a local, or this, that fits.
func (k *maker) known(e *ast.Expr, want ast.Type) bool {
	for _, i := range k.Perm(len(k.there)) {
		if k.tab.Fits(k.there[i].Type, want) {
			e.Kind, e.Name = ast.Local, k.there[i].Name
			return true
		}
	}
	e.Kind = ast.This
	return !k.static && k.tab.Fits(ast.Of("T"), want)
}

// made is something with Kids that fits.
func (k *maker) made(e *ast.Expr, want ast.Type, deep int) bool {
	switch k.Intn(5) {
	case 0:
		t := k.field(e, deep)
		return t != (ast.Type{}) && k.tab.Fits(t, want)
	case 1:
		return k.call(e, want, deep)
	case 2:
		e.Kind, e.Kids = ast.Elem, k.list(deep, ast.Type{Name: want.Name, Array: true}, ast.Int())
		return !want.Array
	case 3:
		e.Kind, e.Type, e.Kids = ast.As, want, k.list(deep, ast.Of(k.class()))
		return want.Class()
	}
	if want == ast.Bool() {
		k.asks(e, deep)
		return true
	}
	switch k.Intn(3) {
	case 0:
		e.Kind, e.Kids = ast.Neg, k.list(deep, ast.Int())
	case 1:
		e.Kind, e.Kids = ast.Length, k.list(deep, ast.Type{Name: k.some().Name, Array: true})
	default:
		e.Kind, e.Name = ast.Bin, []string{"+", "-", "*", "/", "%"}[k.Intn(5)]
		e.Kids = k.list(deep, ast.Int(), ast.Int())
	}
	return want == ast.Int()
}

func (k *maker) asks(e *ast.Expr, deep int) {
	switch k.Intn(5) {
	case 0:
		e.Kind, e.Kids = ast.Not, k.list(deep, ast.Bool())
	case 1:
		e.Kind, e.Kids = []ast.Kind{ast.And, ast.Or}[k.Intn(2)], k.list(deep, ast.Bool(), ast.Bool())
	case 2:
		e.Kind, e.Type, e.Kids = ast.Is, ast.Of(k.class()), k.list(deep, ast.Of(k.class()))
	case 3:
		e.Kind, e.Name, e.Kids = ast.Bin, []string{"<", "<="}[k.Intn(2)], k.list(deep, ast.Int(), ast.Int())
	default:
		a := k.some()
		b := a
		if a.Object() {
			b = []ast.Type{ast.Of(k.class()), {Name: "int", Array: true}, ast.Nothing()}[k.Intn(3)]
		}
		e.Kind, e.Name, e.Kids = ast.Bin, []string{"==", "!="}[k.Intn(2)], k.list(deep, a, b)
	}
}

// field is a field of any class, and its type; or none.
func (k *maker) field(e *ast.Expr, deep int) ast.Type {
	class, name := k.class(), k.name()
	_, t, there := k.tab.Field(class, name)
	if there {
		e.Kind, e.Name, e.Kids = ast.Get, name, k.list(deep, ast.Of(class))
	}
	return t
}

func (k *maker) call(e *ast.Expr, want ast.Type, deep int) bool {
	class, static := k.class(), k.Intn(2) == 0
	for range 9 {
		name := k.name()
		_, sig, there := k.tab.Method(class, name, static)
		if !there || !k.tab.Fits(sig.Ret, want) && want != (ast.Type{}) {
			continue
		}
		if k.goesWild() {
			sig.Params = append(sig.Params, k.some())
		}
		e.Kind, e.Name, e.Kids = ast.Call, name, k.list(deep, append([]ast.Type{ast.Of(class)}, sig.Params...)...)
		if static {
			e.Kind, e.Type, e.Kids = ast.Static, ast.Of(class), e.Kids[1:]
		}
		return true
	}
	return false
}

// any is an expression of any kind, with the parts that it must have.
func (k *maker) any(e *ast.Expr, deep int) {
	e.Kind = ast.Kind(k.Intn(int(ast.Is)) + 1)
	n := 0
	switch e.Kind {
	case ast.Get, ast.Length, ast.Neg, ast.Not, ast.As, ast.Is, ast.Array:
		n = 1
	case ast.Elem, ast.Bin, ast.And, ast.Or:
		n = 2
	case ast.Call:
		n = 1 + k.Intn(3)
	case ast.Static:
		n = k.Intn(3)
	}
	e.Name, e.Type = k.name(), ast.Of(k.class())
	if e.Kind == ast.Bin {
		e.Name = []string{"+", "==", "<"}[k.Intn(3)]
	}
	for range n {
		e.Kids = append(e.Kids, k.expr(k.some(), deep-1))
	}
}

// place is where something may be put, and what fits there.
func (k *maker) place() (ast.Expr, ast.Type) {
	want := k.some()
	e := ast.Expr{At: k.at()}
	if t := k.field(&e, 2); t != (ast.Type{}) {
		return e, t
	}
	if i := k.Intn(len(k.there) + 1); i < len(k.there) && k.Intn(2) == 0 {
		e.Kind, e.Name, e.Kids = ast.Local, k.there[i].Name, nil
		return e, k.there[i].Type
	}
	e.Kind, e.Kids = ast.Elem, k.list(2, ast.Type{Name: want.Name, Array: true}, ast.Int())
	return e, want.Elem()
}

func (k *maker) block(deep int) []ast.Stmt {
	n := len(k.there)
	var out []ast.Stmt
	for range k.Intn(4) {
		out = append(out, k.stmt(deep))
	}
	if !k.goesWild() {
		k.there = k.there[:n]
	}
	return out
}

func (k *maker) stmt(deep int) ast.Stmt {
	s := ast.Stmt{Does: ast.Does(k.Intn(int(ast.Print)) + 1), At: k.at()}
	switch s.Does {
	case ast.Let:
		s.Name, s.Type = "q"+strconv.Itoa(len(k.there)), k.some()
		if k.goesWild() && len(k.there) > 0 {
			s.Name = k.there[k.Intn(len(k.there))].Name
		}
		s.E = k.list(3, s.Type)
		k.there = append(k.there, ast.Var{Name: s.Name, Type: s.Type})
	case ast.Put:
		where, t := k.place()
		s.E = []ast.Expr{where, k.expr(t, 3)}
	case ast.Do:
		e := ast.Expr{At: k.at()}
		if !k.call(&e, ast.Type{}, 2) {
			e.Kind, e.Name, e.Type = ast.Static, "sum", ast.Of("A")
			e.Kids = k.list(1, ast.Int(), ast.Of("B"))
		}
		s.E = []ast.Expr{e}
	case ast.If, ast.While:
		s.E = k.list(3, ast.Bool())
		if deep > 0 {
			s.Then = k.block(deep - 1)
		}
		if deep > 0 && s.Does == ast.If && k.Intn(2) == 0 {
			s.Else = k.block(deep - 1)
		}
	case ast.Return:
		s.E = k.list(3, k.ret)
	default:
		s.E = k.list(3, ast.Int())
	}
	return s
}

// P9.1 to P9.4: classes made by chance, right ones and such with few or many faults, held against the chapter's words: the answer, the first fault, and what was looked at.
func TestAgainstModel(t *testing.T) {
	r := rand.New(rand.NewSource(9))
	count := map[api.Errno]int{}
	for range 6000 {
		c := parsed(t, "class T extends B { field T next; method int m(int n, bool y) { } method bool own() { } static method T one() { } static method int s(B b, T[] ts) { } }")
		tab, other := table(t, c), table(t, c)
		k := &maker{Rand: r, tab: table(t, c), wild: []int{0, 2, 10, 30, 100}[r.Intn(5)]}
		for i := range c.Methods {
			m := &c.Methods[i]
			m.At = k.at()
			k.static, k.ret, k.there = m.Static, m.Ret, slices.Clone(m.Params)
			m.Body = k.block(2)
		}
		got, f := types.Check(tab, c)
		want, g := modelCheck(other, c)
		count[f.E]++
		if f != g || !slices.Equal(told(got), told(want)) || f.E == api.OK && !reflect.DeepEqual(bare(got), bare(c)) {
			t.Fatalf("%s\n%v, not %v\n%q\n%q", c.Text(), f, g, told(got), told(want))
		}
		if a, b := tab.Seen(), other.Seen(); !slices.Equal(a, b) {
			t.Fatalf("%s\n%q, not %q were looked at", c.Text(), a, b)
		}
	}
	for _, e := range []api.Errno{api.OK, api.ErrName, api.ErrType, api.ErrCount, api.ErrTwice} {
		if count[e] < 30 {
			t.Error(e, count[e])
		}
	}
}
