package disk_test

import (
	"math/rand"
	"slices"
	"strings"
	"testing"

	"kiln/api"
	"kiln/disk"
)

// model is a disk told as plainly as the document does: a list of all that was done.
type model struct {
	room int
	safe [][3]string
	done [][3]string
}

func (m *model) files(list ...[][3]string) map[string]string {
	files := map[string]string{}
	for _, c := range slices.Concat(list...) {
		text, ok := files[c[1]]
		switch {
		case c[0] == "write":
			files[c[1]] = c[2]
		case c[0] == "rename" && ok:
			delete(files, c[1])
			files[c[2]] = text
		case c[0] == "remove":
			delete(files, c[1])
		}
	}
	return files
}

func (m *model) free() int {
	n := m.room
	for _, text := range m.files(m.safe, m.done) {
		n -= len(text)
	}
	return n
}

func (m *model) turn(c [3]string) api.Errno {
	files := m.files(m.safe, m.done)
	_, ok := files[c[1]]
	switch {
	case c[0] == "sync":
		m.safe, m.done = slices.Concat(m.safe, m.done), nil
		return api.OK
	case c[0] == "write" && c[1] == "", c[0] == "rename" && c[2] == "":
		return api.ErrArg
	case c[0] == "write" && len(c[2]) > m.free()+len(files[c[1]]):
		return api.ErrFull
	case c[0] != "write" && !ok:
		return api.ErrNone
	}
	m.done = append(m.done, c)
	return api.OK
}

func turn(d *disk.Disk, c [3]string) api.Errno {
	switch c[0] {
	case "write":
		return d.Write(c[1], c[2])
	case "rename":
		return d.Rename(c[1], c[2])
	case "remove":
		return d.Remove(c[1])
	}
	return d.Sync()
}

func wantSame(t *testing.T, d *disk.Disk, files map[string]string) {
	t.Helper()
	var parts []string
	for name, text := range files {
		parts = append(parts, name+"="+text)
	}
	slices.Sort(parts)
	wantFiles(t, "as the model", d, strings.Join(parts, " "))
}

func somePart(r *rand.Rand) [3]string {
	names := []string{"a", "b", "c", "d", ""}
	c := [3]string{[]string{"write", "write", "rename", "remove", "sync"}[r.Intn(5)], names[r.Intn(5)], names[r.Intn(5)]}
	if c[0] == "write" {
		c[2] = strings.Repeat("x", r.Intn(7))
	}
	return c
}

func TestDiskIsItsModel(t *testing.T) {
	r := rand.New(rand.NewSource(1))
	for range 300 {
		d, m := disk.New(12), &model{room: 12}
		for range 30 {
			c := somePart(r)
			wantErr(t, strings.Join(c[:], " "), turn(d, c), m.turn(c))
			wantRoom(t, "as the model", d, m.free())
			wantSame(t, d, m.files(m.safe, m.done))
		}
		var keep []bool
		var kept [][3]string
		for _, c := range m.done {
			keep = append(keep, r.Intn(2) == 0)
			if keep[len(keep)-1] {
				kept = append(kept, c)
			}
		}
		wantSame(t, d.Crash(keep...), m.files(m.safe, kept))
		wantSame(t, d.Clone(), m.files(m.safe, m.done))
		wantSame(t, d.Clone().Crash(keep...), m.files(m.safe, kept))
	}
}
