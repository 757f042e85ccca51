package chance

import (
	"kiln/ast"
	"kiln/class"
	"kiln/face"
	"kiln/gen"
	"kiln/hier"
	"kiln/parse"
	"kiln/types"
)

// Files are the files of the classes that Texts makes of a seed, in their order. All of these are right: no layer has a fault to tell.
func Files(seed uint64) []class.File {
	var list []ast.Class
	var faces []face.Face
	for _, s := range Texts(seed) {
		c, _ := parse.Class(s)
		list = append(list, c)
		faces = append(faces, face.Of(c))
	}
	t := hier.New(faces...)
	var files []class.File
	for _, c := range list {
		c, _ = types.Check(t, c)
		f, _ := gen.Class(t, c)
		files = append(files, f)
	}
	return files
}
