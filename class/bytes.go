package class

import (
	"kiln/api"
	"kiln/ast"
	"kiln/face"
	"kiln/op"
	"kiln/pack"
)

// Encode is a class as bytes.
func (f File) Encode() (string, api.Errno) {
	if !f.Right() {
		return "", api.ErrArg
	}
	var w pack.Writer
	f.Lay(&w)
	layPool(&w, f.Pool)
	for _, b := range f.Bodies {
		layBody(&w, b)
	}
	return w.String(), api.OK
}

func layPool(w *pack.Writer, p Pool) {
	w.Num(len(p.Nums)).Int(p.Nums...)
	w.Num(len(p.Classes)).Text(p.Classes...)
	w.Num(len(p.Types))
	for _, t := range p.Types {
		layType(w, t)
	}
	w.Num(len(p.Fields))
	for _, x := range p.Fields {
		w.Text(x.Class, x.Name)
		layType(w, x.Type)
	}
	w.Num(len(p.Methods))
	for _, m := range p.Methods {
		m.alone().Lay(w)
	}
}

func layType(w *pack.Writer, t ast.Type) { w.Text(t.Name).Flag(t.Array) }

func layBody(w *pack.Writer, b Body) {
	w.Num(b.Locals, b.Stack, len(b.Code))
	for _, i := range b.Code {
		w.Num(int(i.Code))
		if i.Code.Pool() != 0 {
			w.Num(i.A)
		}
	}
}

// Decode is the class that bytes are. What was read is laid once more: bytes of which a part was wrong, or read over, aren't those of this class, and nothing else need be asked.
func Decode(s string) (File, api.Errno) {
	f := readFile(pack.Read(s))
	if again, e := f.Encode(); e != api.OK || again != s {
		return File{}, api.ErrForm
	}
	return f, api.OK
}

func readFile(r *pack.Reader) File {
	f := File{Face: face.Read(r), Pool: readPool(r)}
	for range f.Face.Methods {
		f.Bodies = append(f.Bodies, readBody(r))
	}
	return f
}

func readPool(r *pack.Reader) Pool {
	return Pool{
		Nums:    readMany(r, (*pack.Reader).Int),
		Classes: readMany(r, readName),
		Types:   readMany(r, face.Type),
		Fields:  readMany(r, readField),
		Methods: readMany(r, readMethod),
	}
}

func readMany[T any](r *pack.Reader, part func(*pack.Reader) T) []T {
	var all []T
	for range r.Many(api.MaxCode) {
		all = append(all, part(r))
	}
	return all
}

func readName(r *pack.Reader) string { return r.Text(api.MaxName) }

func readField(r *pack.Reader) Field {
	return Field{Class: readName(r), Var: ast.Var{Name: readName(r), Type: face.Type(r)}}
}

// readMethod is the first method of a face; if there is none, one that isn't right.
func readMethod(r *pack.Reader) Method {
	f := face.Read(r)
	m := Method{Class: f.Name}
	if len(f.Methods) > 0 {
		m.Sig = f.Methods[0]
	}
	return m
}

func readBody(r *pack.Reader) Body {
	return Body{Locals: r.Num(mostLocals), Stack: r.Num(api.MaxStack), Code: readMany(r, readInstr)}
}

func readInstr(r *pack.Reader) op.Instr {
	i := op.Instr{Code: op.Code(r.Num(int(op.Zero)))}
	if i.Code.Pool() != 0 {
		i.A = r.Num(api.MaxCode)
	}
	return i
}
