// Package chance makes classes by chance, and turns the code of files by chance, for tests of layers that need right ones.
package chance

import (
	"strconv"

	"kiln/ast"
	"kiln/face"
	"kiln/hier"
)

// Texts are classes that are right beside each other, the same of one seed: some that stand above one another, and at the end Main, which has a static method go of two ints that returns an int.
func Texts(seed uint64) []string {
	k := &maker{dice: dice{seed}}
	list := k.classes()
	for _, c := range list {
		k.faces = append(k.faces, face.Of(c))
	}
	k.Table = hier.New(k.faces...)
	var texts []string
	for _, c := range list {
		for i := range c.Methods {
			c.Methods[i].Body = k.body(c.Name, c.Methods[i])
		}
		texts = append(texts, c.Text())
	}
	return texts
}

// maker is what is known of all classes, and of the method that is being made.
type maker struct {
	dice
	*hier.Table
	faces  []face.Face
	names  []string
	class  string
	static bool
	ret    ast.Type
	there  []ast.Var
	had    int
}

// classes are all classes, their methods without bodies.
func (k *maker) classes() []ast.Class {
	k.names = []string{"A", "B", "C", "D", "E"}[:2+k.below(4)]
	var list []ast.Class
	for i, name := range k.names {
		c := ast.Class{Name: name}
		if i > 0 && !k.one(4) {
			above := list[k.below(i)]
			c.Super = above.Name
			c.Methods = k.again(above)
		}
		k.members(&c, string('a'+rune(i)))
		list = append(list, c)
	}
	main := ast.Class{Name: "Main"}
	k.members(&main, "z")
	main.Methods = append(main.Methods, ast.Method{Name: "go", Static: true, Params: k.vars("p", ast.Int(), ast.Int()), Ret: ast.Int()})
	return append(list, main)
}

// members gives a class fields and methods, with names that no other class gives.
func (k *maker) members(c *ast.Class, prefix string) {
	for i := range k.below(4) {
		c.Fields = append(c.Fields, ast.Var{Name: prefix + strconv.Itoa(i), Type: k.some()})
	}
	for i := range k.below(3) {
		m := ast.Method{Name: prefix + "m" + strconv.Itoa(i), Static: k.one(3), Ret: k.some()}
		for range k.below(3) {
			m.Params = append(m.Params, k.vars("p"+strconv.Itoa(len(m.Params)), k.some())...)
		}
		c.Methods = append(c.Methods, m)
	}
}

// again is some methods of the class above, for one below it: the same, or static ones, which may be unlike.
func (k *maker) again(above ast.Class) []ast.Method {
	var list []ast.Method
	for _, m := range above.Methods {
		switch {
		case !m.Static && k.one(8):
			list = append(list, ast.Method{Name: m.Name, Static: true, Ret: k.some()})
		case k.one(2):
			m.Params = k.vars("q", face.Of1(m).Params...)
			list = append(list, m)
		}
	}
	return list
}

func (k *maker) vars(prefix string, list ...ast.Type) []ast.Var {
	var all []ast.Var
	for i, t := range list {
		all = append(all, ast.Var{Name: prefix + string('a'+rune(i)), Type: t})
	}
	return all
}

// some is any type.
func (k *maker) some() ast.Type {
	t := pick(&k.dice, ast.Int(), ast.Int(), ast.Bool(), ast.Of(pick(&k.dice, k.names...)), ast.Of(pick(&k.dice, k.names...)))
	t.Array = k.one(4)
	return t
}
