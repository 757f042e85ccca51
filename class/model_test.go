package class_test

import (
	"encoding/binary"
	"math/rand"

	"kiln/api"
	"kiln/ast"
	"kiln/class"
	"kiln/face"
	"kiln/op"
)

// page is bytes laid by the chapter's words, without layer 2.
type page []byte

func (p *page) num(n int)     { *p = binary.AppendUvarint(*p, uint64(n)) }
func (p *page) text(s string) { p.num(len(s)); *p = append(*p, s...) }

func (p *page) flag(yes bool) {
	if yes {
		p.num(1)
	} else {
		p.num(0)
	}
}

func (p *page) int(n int64) {
	u := uint64(n)<<1 ^ uint64(n>>63)
	p.num(int(u >> 32))
	p.num(int(u & 0xffffffff))
}

func (p *page) kind(t ast.Type) { p.text(t.Name); p.flag(t.Array) }

func (p *page) sig(s face.Sig) {
	p.text(s.Name)
	p.flag(s.Static)
	p.kind(s.Ret)
	p.num(len(s.Params))
	for _, t := range s.Params {
		p.kind(t)
	}
}

// model is what a file is laid as.
func model(f class.File) string {
	var p page
	p.text(f.Name)
	p.text(f.Super)
	p.num(len(f.Face.Fields))
	for _, x := range f.Face.Fields {
		p.text(x.Name)
		p.kind(x.Type)
	}
	p.num(len(f.Face.Methods))
	for _, m := range f.Face.Methods {
		p.sig(m)
	}
	p.pool(f.Pool)
	for _, b := range f.Bodies {
		p.num(b.Locals)
		p.num(b.Stack)
		p.num(len(b.Code))
		for _, i := range b.Code {
			p.num(int(i.Code))
			if i.Code.Pool() != 0 {
				p.num(i.A)
			}
		}
	}
	return string(p)
}

func (p *page) pool(l class.Pool) {
	p.num(len(l.Nums))
	for _, n := range l.Nums {
		p.int(n)
	}
	p.num(len(l.Classes))
	for _, s := range l.Classes {
		p.text(s)
	}
	p.num(len(l.Types))
	for _, t := range l.Types {
		p.kind(t)
	}
	p.num(len(l.Fields))
	for _, x := range l.Fields {
		p.text(x.Class)
		p.text(x.Name)
		p.kind(x.Type)
	}
	p.num(len(l.Methods))
	for _, m := range l.Methods {
		p.text(m.Class)
		p.num(0)
		p.num(0)
		p.num(1)
		p.sig(m.Sig)
	}
}

// scan reads bytes by the chapter's words, without layer 2; bad, where it can't.
type scan struct {
	rest []byte
	bad  bool
}

func (s *scan) num() int {
	n, size := binary.Uvarint(s.rest)
	if size <= 0 || size > 9 || size > 1 && s.rest[size-1] == 0 {
		s.rest, s.bad = nil, true
		return 0
	}
	s.rest = s.rest[size:]
	return int(n)
}

// few is a number of parts: more than there may be of anything are none.
func (s *scan) few() int {
	n := s.num()
	if n > api.MaxCode {
		s.bad = true
		return 0
	}
	return n
}

func (s *scan) text() string {
	n := s.num()
	if n > len(s.rest) {
		s.rest, s.bad = nil, true
		return ""
	}
	t := string(s.rest[:n])
	s.rest = s.rest[n:]
	return t
}

func (s *scan) want(ok bool) {
	if !ok {
		s.bad = true
	}
}

func (s *scan) flag() bool {
	n := s.num()
	s.want(n < 2)
	return n == 1
}

func (s *scan) int() int64 {
	upper, lower := s.num(), s.num()
	s.want(upper < 1<<32 && lower < 1<<32)
	u := uint64(upper)<<32 | uint64(lower)
	return int64(u>>1) ^ -int64(u&1)
}

func (s *scan) kind() ast.Type { return ast.Type{Name: s.text(), Array: s.flag()} }

func (s *scan) sig() face.Sig {
	m := face.Sig{Name: s.text(), Static: s.flag(), Ret: s.kind()}
	for range s.few() {
		m.Params = append(m.Params, s.kind())
	}
	return m
}

// read is the file that bytes are, right or not.
func (s *scan) read() class.File {
	f := class.File{Face: face.Face{Name: s.text(), Super: s.text()}}
	for range s.few() {
		f.Face.Fields = append(f.Face.Fields, ast.Var{Name: s.text(), Type: s.kind()})
	}
	for range s.few() {
		f.Face.Methods = append(f.Face.Methods, s.sig())
	}
	f.Pool = s.pool()
	for range f.Face.Methods {
		b := class.Body{Locals: s.num(), Stack: s.num()}
		for range s.few() {
			i := op.Instr{Code: op.Code(s.num())}
			if i.Code.Pool() != 0 {
				i.A = s.num()
			}
			b.Code = append(b.Code, i)
		}
		f.Bodies = append(f.Bodies, b)
	}
	s.want(len(s.rest) == 0)
	return f
}

func (s *scan) pool() class.Pool {
	var p class.Pool
	for range s.few() {
		p.Nums = append(p.Nums, s.int())
	}
	for range s.few() {
		p.Classes = append(p.Classes, s.text())
	}
	for range s.few() {
		p.Types = append(p.Types, s.kind())
	}
	for range s.few() {
		p.Fields = append(p.Fields, class.Field{Class: s.text(), Var: ast.Var{Name: s.text(), Type: s.kind()}})
	}
	for range s.few() {
		m := class.Method{Class: s.text()}
		s.want(s.num() == 0)
		s.want(s.num() == 0)
		s.want(s.num() == 1)
		m.Sig = s.sig()
		p.Methods = append(p.Methods, m)
	}
	return p
}

// anyClass and anyType are names and types by chance.
func anyClass(r *rand.Rand) string {
	return []string{"A", "B", "Zed", "D_9", most}[r.Intn(5)]
}

func anyType(r *rand.Rand) ast.Type {
	return ast.Type{Name: []string{"int", "bool", anyClass(r)}[r.Intn(3)], Array: r.Intn(3) == 0}
}

func anySig(r *rand.Rand, name string) face.Sig {
	s := sig(name, r.Intn(2) == 0, anyType(r))
	for range r.Intn(4) {
		s.Params = append(s.Params, anyType(r))
	}
	return s
}

func anyPool(r *rand.Rand) class.Pool {
	var p class.Pool
	for range r.Intn(4) {
		p.Nums = append(p.Nums, int64(r.Uint64())>>r.Intn(64))
	}
	for range r.Intn(4) {
		p.Classes = append(p.Classes, anyClass(r))
	}
	for range r.Intn(4) {
		p.Types = append(p.Types, anyType(r))
	}
	for range r.Intn(4) {
		p.Fields = append(p.Fields, field(anyClass(r), names(5)[r.Intn(5)], anyType(r)))
	}
	for range r.Intn(4) {
		p.Methods = append(p.Methods, method(anyClass(r), anySig(r, names(5)[r.Intn(5)])))
	}
	return p
}

func anyBody(r *rand.Rand, p class.Pool, least int) class.Body {
	b := class.Body{Locals: min(least+r.Intn(3)*r.Intn(200), 401), Stack: r.Intn(1001) >> r.Intn(10)}
	n := 1 + r.Intn(10)*r.Intn(30)
	there := map[rune]int{0: 1, 'n': len(p.Nums), 'c': len(p.Classes), 't': len(p.Types), 'f': len(p.Fields), 'm': len(p.Methods), 'l': b.Locals, 'j': n, 'b': 2}
	for len(b.Code) < n {
		c := op.Code(1 + r.Intn(32))
		if most := there[c.Pool()]; most > 0 {
			b.Code = append(b.Code, op.Instr{Code: c, A: r.Intn(most)})
		}
	}
	return b
}

// byChance is a file that is right.
func byChance(r *rand.Rand) class.File {
	f := class.File{Face: face.Face{Name: anyClass(r)}, Pool: anyPool(r)}
	if r.Intn(2) == 0 {
		f.Super = anyClass(r)
	}
	for _, name := range names(r.Intn(4)) {
		f.Face.Fields = append(f.Face.Fields, v(name, anyType(r)))
	}
	for _, name := range names(r.Intn(4)) {
		s := anySig(r, name)
		least := len(s.Params)
		if !s.Static {
			least++
		}
		f.Face.Methods = append(f.Face.Methods, s)
		f.Bodies = append(f.Bodies, anyBody(r, f.Pool, least))
	}
	return f
}
