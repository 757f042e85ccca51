package eval

import (
	"kiln/api"
	"kiln/ast"
)

func (f *frame) block(t *task) {
	if t.begun == len(*t.block) {
		f.drop()
		return
	}
	t.begun++
	f.begin(task{stmt: &(*t.block)[t.begun-1]})
}

// stmt begins the next expression of a statement; behind the last one it does what it says.
func (f *frame) stmt(t *task) {
	s := t.stmt
	if e := part(s, t.begun); e != nil {
		t.begun++
		f.begin(task{expr: e})
		return
	}
	last := f.pop()
	switch {
	case s.Does == ast.While && last.yes():
		t.begun = 0
		f.lay(task{block: &s.Then})
		return
	case s.Does == ast.Return:
		f.leave(last)
		return
	}
	f.drop()
	f.end(s, last)
}

// end does what a statement says that comes but once.
func (f *frame) end(s *ast.Stmt, last value) {
	switch s.Does {
	case ast.Let:
		f.put(s.Name, last)
	case ast.Put:
		f.putAt(&s.E[0], last)
	case ast.If:
		f.lay(task{block: branch(s, last.yes())})
	case ast.Print:
		f.Out = append(f.Out, last.num)
	}
}

// part is the expressions of a statement, one by one: of a Put the place itself is none.
func part(s *ast.Stmt, i int) *ast.Expr {
	list := s.E
	if s.Does == ast.Put {
		place := &list[0]
		if i < len(place.Kids) {
			return &place.Kids[i]
		}
		list, i = list[1:], i-len(place.Kids)
	}
	if i < len(list) {
		return &list[i]
	}
	return nil
}

func branch(s *ast.Stmt, yes bool) *[]ast.Stmt {
	if yes {
		return &s.Then
	}
	return &s.Else
}

// putAt puts a value at a place, whose Kids are there already.
func (f *frame) putAt(place *ast.Expr, v value) {
	kids := f.take(len(place.Kids))
	switch place.Kind {
	case ast.Local:
		f.put(place.Name, v)
	case ast.Get:
		if o := f.some(kids[0]); o != nil {
			o.putField(place.Name, v)
		}
	case ast.Elem:
		if o := f.parted(kids[0], kids[1].num); o != nil {
			o.putPart(kids[1].num, v)
		}
	}
}

// some is the object, or array, that a value is; none, and the trap, if it is nothing.
func (m *machine) some(v value) *object {
	if v.ref == nil {
		m.trap(api.Null)
	}
	return v.ref
}

// parted is an array that has a part of that number; none, and the trap, if it isn't there, or hasn't.
func (m *machine) parted(v value, i int64) *object {
	o := m.some(v)
	if o != nil && !o.has(i) {
		m.trap(api.Index)
		return nil
	}
	return o
}
