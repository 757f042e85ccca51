package face

import (
	"kiln/api"
	"kiln/ast"
	"kiln/pack"
	"kiln/sha"
)

// Lay lays a face.
func (f Face) Lay(w *pack.Writer) {
	w.Text(f.Name, f.Super)
	w.Num(len(f.Fields))
	for _, x := range f.Fields {
		w.Text(x.Name)
		layType(w, x.Type)
	}
	w.Num(len(f.Methods))
	for _, m := range f.Methods {
		w.Text(m.Name).Flag(m.Static)
		layType(w, m.Ret)
		w.Num(len(m.Params))
		for _, t := range m.Params {
			layType(w, t)
		}
	}
}

func layType(w *pack.Writer, t ast.Type) { w.Text(t.Name).Flag(t.Array) }

// Read reads a face. It asks for no error in between: a Reader tells at its end whether all that was read is worth something.
func Read(r *pack.Reader) Face {
	f := Face{Name: readName(r), Super: readName(r)}
	f.Fields = readMany(r, readField)
	f.Methods = readMany(r, readSig)
	return f
}

// Type reads a type.
func Type(r *pack.Reader) ast.Type { return ast.Type{Name: readName(r), Array: r.Flag()} }

func readName(r *pack.Reader) string { return r.Text(api.MaxName) }

func readField(r *pack.Reader) ast.Var { return ast.Var{Name: readName(r), Type: Type(r)} }

func readSig(r *pack.Reader) Sig {
	s := Sig{Name: readName(r), Static: r.Flag(), Ret: Type(r)}
	s.Params = readMany(r, Type)
	return s
}

func readMany[T any](r *pack.Reader, part func(*pack.Reader) T) []T {
	var all []T
	for range r.Many(api.MaxMembers) {
		all = append(all, part(r))
	}
	return all
}

// Digest is the digest of a face.
func (f Face) Digest() sha.Digest {
	var w pack.Writer
	f.Lay(&w)
	return sha.Sum("face ", w.String())
}
