package disk

import (
	"maps"
	"slices"
)

type file struct{ text string }

// store is files by their names, with the sum of their bytes kept: a Write asks for it each time.
type store struct {
	files map[string]file
	used  int
}

type kind int

const (
	write kind = iota
	rename
	remove
)

// change is what was done to files; with is the text of a write, the other name of a rename.
type change struct {
	kind kind
	name string
	with string
}

// apply does a change again, where it may not fit any more: a file that it needs may never have come.
func (s *store) apply(c change) {
	switch c.kind {
	case write:
		s.put(c.name, file{c.with})
	case rename:
		s.move(c.name, c.with)
	case remove:
		s.drop(c.name)
	}
}

func (s *store) has(name string) bool {
	_, ok := s.files[name]
	return ok
}

func (s *store) put(name string, f file) {
	s.drop(name)
	if s.files == nil {
		s.files = map[string]file{}
	}
	s.files[name] = f
	s.used += len(f.text)
}

func (s *store) move(from, to string) {
	if !s.has(from) {
		return
	}
	f := s.files[from]
	s.drop(from)
	s.put(to, f)
}

func (s *store) drop(name string) {
	s.used -= len(s.files[name].text)
	delete(s.files, name)
}

func (s *store) names() []string {
	names := make([]string, 0, len(s.files))
	for name := range s.files {
		names = append(names, name)
	}
	slices.Sort(names)
	return names
}

func (s *store) clone() store {
	return store{maps.Clone(s.files), s.used}
}
