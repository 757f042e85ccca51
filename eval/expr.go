package eval

import (
	"kiln/api"
	"kiln/ast"
)

// expr begins the next Kid of an expression; behind the last one comes the value.
func (f *frame) expr(t *task) {
	e := t.expr
	if t.begun < len(e.Kids) && !f.tells(t) {
		t.begun++
		f.begin(task{expr: &e.Kids[t.begun-1]})
		return
	}
	f.drop()
	switch e.Kind {
	case ast.And, ast.Or:
		// The value of one Kid is left, and it is this one's.
	case ast.Call, ast.Static:
		f.call(e)
	default:
		f.push(f.value(e, f.take(len(e.Kids))))
	}
}

// tells is whether the first one of And or Or is enough; if not, its value is gone, for the second one alone counts.
func (f *frame) tells(t *task) bool {
	kind := t.expr.Kind
	if t.begun != 1 || kind != ast.And && kind != ast.Or {
		return false
	}
	first := f.pop()
	if first.yes() != (kind == ast.Or) {
		return false
	}
	f.push(first)
	return true
}

// call enters a method: its value comes when that is left.
func (f *frame) call(e *ast.Expr) {
	args := f.take(len(e.Kids))
	if e.Kind == ast.Static {
		f.enter(f.method(member{e.Type.Name, e.Name, true}), value{}, args)
		return
	}
	if o := f.some(args[0]); o != nil {
		f.enter(f.method(member{o.name, e.Name, false}), args[0], args[1:])
	}
}

func (f *frame) value(e *ast.Expr, kids []value) value {
	switch e.Kind {
	case ast.Num:
		return number(e.Num)
	case ast.True:
		return truth(true)
	case ast.This:
		return f.this
	case ast.Local:
		return f.get(e.Name)
	case ast.Neg:
		return number(-kids[0].num)
	case ast.Not:
		return truth(!kids[0].yes())
	case ast.Bin:
		return f.bin(e.Name, kids[0], kids[1])
	case ast.Get, ast.New, ast.As, ast.Is:
		return f.object(e, kids)
	case ast.Array, ast.Elem, ast.Length:
		return f.array(e, kids)
	}
	// False, and Null.
	return value{}
}

func (f *frame) object(e *ast.Expr, kids []value) value {
	switch e.Kind {
	case ast.New:
		k := f.kind(e.Type.Name)
		return f.made(object{kind: k}, int64(k.size))
	case ast.Get:
		if o := f.some(kids[0]); o != nil {
			return o.fields[e.Name]
		}
	case ast.As:
		if kids[0].ref != nil && !kids[0].below(e.Type.Name) {
			return f.trap(api.Cast)
		}
		return kids[0]
	case ast.Is:
		return truth(kids[0].below(e.Type.Name))
	}
	return value{}
}

func (f *frame) array(e *ast.Expr, kids []value) value {
	switch e.Kind {
	case ast.Array:
		n := kids[0].num
		if n < 0 {
			return f.trap(api.Index)
		}
		return f.made(object{length: n}, n)
	case ast.Elem:
		if o := f.parted(kids[0], kids[1].num); o != nil {
			return o.parts[kids[1].num]
		}
	case ast.Length:
		if o := f.some(kids[0]); o != nil {
			return number(o.length)
		}
	}
	return value{}
}

func (f *frame) bin(sign string, a, b value) value {
	switch sign {
	case "+":
		return number(a.num + b.num)
	case "-":
		return number(a.num - b.num)
	case "*":
		return number(a.num * b.num)
	case "<":
		return truth(a.num < b.num)
	case "<=":
		return truth(a.num <= b.num)
	case "==":
		return truth(a == b)
	case "!=":
		return truth(a != b)
	}
	if b.num == 0 {
		return f.trap(api.Zero)
	}
	if sign == "/" {
		return number(a.num / b.num)
	}
	return number(a.num % b.num)
}
