package class

import (
	"kiln/api"
	"kiln/pack"
)

// Archive is classes as bytes.
func Archive(list ...File) (string, api.Errno) {
	if len(list) > api.MaxClasses {
		return "", api.ErrMany
	}
	var w pack.Writer
	w.Num(len(list))
	for _, f := range list {
		s, e := f.Encode()
		if e != api.OK {
			return "", e
		}
		w.Text(s)
	}
	return w.String(), api.OK
}

// Unpack is the classes that bytes are.
func Unpack(s string) ([]File, api.Errno) {
	r := pack.Read(s)
	var list []File
	for range r.Many(api.MaxClasses) {
		f, e := Decode(r.Text(len(s)))
		if e != api.OK {
			return nil, e
		}
		list = append(list, f)
	}
	if e := r.Done(); e != api.OK {
		return nil, e
	}
	return list, api.OK
}
