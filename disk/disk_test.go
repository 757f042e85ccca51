package disk_test

import (
	"math"
	"slices"
	"strings"
	"testing"

	"kiln/api"
	"kiln/disk"
)

func wantErr(t *testing.T, what string, got, want api.Errno) {
	t.Helper()
	if got != want {
		t.Errorf("%s: error %d, want %d", what, got, want)
	}
}

func wantRoom(t *testing.T, what string, d *disk.Disk, want int) {
	t.Helper()
	if got := d.Room(); got != want {
		t.Errorf("%s: room %d, want %d", what, got, want)
	}
}

// show is all files of a disk, as name=text, in the order of Names.
func show(t *testing.T, d *disk.Disk) string {
	t.Helper()
	var parts []string
	for _, name := range d.Names() {
		text, e := d.Read(name)
		wantErr(t, "Read "+name, e, api.OK)
		parts = append(parts, name+"="+text)
	}
	return strings.Join(parts, " ")
}

func wantFiles(t *testing.T, what string, d *disk.Disk, want string) {
	t.Helper()
	if got := show(t, d); got != want {
		t.Errorf("%s: files %q, want %q", what, got, want)
	}
}

func must(t *testing.T, es ...api.Errno) {
	t.Helper()
	for i, e := range es {
		if e != api.OK {
			t.Fatalf("step %d: error %d", i, e)
		}
	}
}

func TestNewHasNoFilesAndPower(t *testing.T) {
	d := disk.New(10)
	if d.Down() || len(d.Names()) != 0 {
		t.Error(d.Down(), d.Names())
	}
	if text, e := d.Read("a"); text != "" || e != api.ErrNone {
		t.Error(text, e)
	}
}

func TestNewBoundsItsRoom(t *testing.T) {
	for _, c := range []struct{ room, want int }{
		{math.MinInt, 0}, {-1, 0}, {0, 0}, {1, 1}, {10, 10},
		{disk.MaxRoom - 1, disk.MaxRoom - 1}, {disk.MaxRoom, disk.MaxRoom},
		{disk.MaxRoom + 1, disk.MaxRoom}, {math.MaxInt, disk.MaxRoom},
	} {
		wantRoom(t, "New", disk.New(c.room), c.want)
	}
	if disk.MaxRoom != 4194304 {
		t.Error(disk.MaxRoom)
	}
}

func TestRoomIsWhatFilesLeave(t *testing.T) {
	d := disk.New(10)
	must(t, d.Write("a", "123"), d.Write("b", "4567"))
	wantRoom(t, "two files", d, 3)
	must(t, d.Write("a", "1"))
	wantRoom(t, "a shorter text", d, 5)
	must(t, d.Rename("b", "c"))
	wantRoom(t, "another name", d, 5)
	must(t, d.Rename("c", "c"))
	wantRoom(t, "the same name", d, 5)
	must(t, d.Rename("c", "a"))
	wantRoom(t, "over another file", d, 6)
	must(t, d.Remove("a"))
	wantRoom(t, "none left", d, 10)
	must(t, d.Write("a", "123"), d.Sync())
	wantRoom(t, "safe files", d, 7)
}

func TestFallLetsSoManyTurnsPass(t *testing.T) {
	for _, c := range []struct{ turns, want int }{{math.MinInt, 0}, {-1, 0}, {0, 0}, {1, 1}, {2, 2}, {5, 5}} {
		d := disk.New(10)
		d.Fall(c.turns)
		if d.Down() {
			t.Error("down ahead of a turn", c.turns)
		}
		passed := 0
		for passed < 10 && d.Sync() == api.OK {
			passed++
		}
		if passed != c.want || !d.Down() {
			t.Error(c.turns, passed, d.Down())
		}
	}
}

func TestEachTurnCountsWhateverItAnswers(t *testing.T) {
	turns := []func(d *disk.Disk) api.Errno{
		func(d *disk.Disk) api.Errno { return d.Write("b", "1") },
		func(d *disk.Disk) api.Errno { return d.Write("", "1") },
		func(d *disk.Disk) api.Errno { return d.Write("b", "12345678901") },
		func(d *disk.Disk) api.Errno { return d.Rename("a", "b") },
		func(d *disk.Disk) api.Errno { return d.Rename("a", "") },
		func(d *disk.Disk) api.Errno { return d.Rename("x", "y") },
		func(d *disk.Disk) api.Errno { return d.Remove("a") },
		func(d *disk.Disk) api.Errno { return d.Remove("x") },
		func(d *disk.Disk) api.Errno { return d.Sync() },
	}
	for i, turn := range turns {
		d := disk.New(10)
		must(t, d.Write("a", "1"))
		d.Fall(1)
		if turn(d) == api.ErrDown || d.Down() {
			t.Error("down too early", i)
		}
		wantErr(t, "the turn behind", d.Sync(), api.ErrDown)

		d = disk.New(10)
		must(t, d.Write("a", "1"))
		d.Fall(0)
		wantErr(t, "the first turn", turn(d), api.ErrDown)
		if !d.Down() {
			t.Error("not down", i)
		}
	}
}

func TestOthersAreNoTurns(t *testing.T) {
	d := disk.New(10)
	must(t, d.Write("a", "1"))
	d.Fall(0)
	for range 3 {
		d.Names()
		d.Room()
		d.Crash(true)
		d.Clone()
		if text, e := d.Read("a"); text != "1" || e != api.OK || d.Down() {
			t.Error(text, e, d.Down())
		}
	}
	wantErr(t, "a turn", d.Sync(), api.ErrDown)
}

func TestFallAgainCountsAnew(t *testing.T) {
	d := disk.New(10)
	d.Fall(2)
	must(t, d.Sync())
	d.Fall(2)
	must(t, d.Sync(), d.Sync())
	wantErr(t, "the third", d.Sync(), api.ErrDown)
	d.Fall(5)
	wantErr(t, "said without power", d.Sync(), api.ErrDown)
	if !d.Down() {
		t.Error("power came back")
	}
	d = disk.New(10)
	d.Fall(5)
	d.Fall(0)
	wantErr(t, "sooner", d.Sync(), api.ErrDown)
}

func TestWithoutPowerNothingTurns(t *testing.T) {
	d := disk.New(10)
	must(t, d.Write("a", "1"), d.Sync(), d.Write("b", "22"))
	d.Fall(0)
	for i, e := range []api.Errno{d.Write("c", "3"), d.Rename("a", "c"), d.Remove("a"), d.Sync(), d.Write("", ""), d.Rename("x", ""), d.Remove("x"), d.Write("c", "12345678901")} {
		if e != api.ErrDown {
			t.Error(i, e)
		}
	}
	for _, name := range []string{"a", "x", ""} {
		if text, e := d.Read(name); text != "" || e != api.ErrDown {
			t.Error(name, text, e)
		}
	}
	if len(d.Names()) != 0 || !d.Down() {
		t.Error(d.Names(), d.Down())
	}
	wantRoom(t, "without power", d, 7)
	wantFiles(t, "the change kept", d.Crash(true, true), "a=1 b=22")
	wantFiles(t, "not kept", d.Crash(), "a=1")
}

func TestWriteErrors(t *testing.T) {
	long := strings.Repeat("n", 80)
	d := disk.New(5)
	wantErr(t, "no name", d.Write("", "1"), api.ErrArg)
	wantErr(t, "81 bytes", d.Write(long+"n", "1"), api.ErrArg)
	wantErr(t, "80 bytes", d.Write(long, "1"), api.OK)
	wantErr(t, "bytes, not runes", d.Write(strings.Repeat("\u00e4", 41), ""), api.ErrArg)
	wantErr(t, "bytes, not runes", d.Write(strings.Repeat("\u00e4", 40), ""), api.OK)
	wantErr(t, "a name ahead of room", d.Write("", "123456"), api.ErrArg)
	wantErr(t, "no room", d.Write("a", "12345"), api.ErrFull)
	wantErr(t, "all room", d.Write("a", "1234"), api.OK)
	wantErr(t, "an empty text", d.Write("b", ""), api.OK)
	wantErr(t, "one more", d.Write("b", "1"), api.ErrFull)
	wantErr(t, "what the file has is free for it", d.Write("a", "4321"), api.OK)
	wantErr(t, "but no more", d.Write("a", "54321"), api.ErrFull)
	wantFiles(t, "errors turn nothing", d, "a=4321 b= "+long+"=1 "+strings.Repeat("\u00e4", 40)+"=")
}

func TestWriteTakesAnyBytes(t *testing.T) {
	d := disk.New(10)
	must(t, d.Write("\x00\xff /", "\x00\xff\n"))
	if text, e := d.Read("\x00\xff /"); text != "\x00\xff\n" || e != api.OK {
		t.Error(text, e)
	}
}

func TestWriteFillsTheGreatestDisk(t *testing.T) {
	d := disk.New(disk.MaxRoom)
	wantErr(t, "too long", d.Write("a", strings.Repeat("x", disk.MaxRoom+1)), api.ErrFull)
	wantErr(t, "just", d.Write("a", strings.Repeat("x", disk.MaxRoom)), api.OK)
	wantRoom(t, "full", d, 0)
}

func TestRename(t *testing.T) {
	long := strings.Repeat("n", 80)
	d := disk.New(10)
	must(t, d.Write("a", "1"), d.Write("b", "22"))
	wantErr(t, "no name", d.Rename("a", ""), api.ErrArg)
	wantErr(t, "81 bytes", d.Rename("a", long+"n"), api.ErrArg)
	wantErr(t, "a name ahead of none", d.Rename("x", ""), api.ErrArg)
	wantErr(t, "none", d.Rename("x", "a"), api.ErrNone)
	wantErr(t, "none by no name", d.Rename("", "a"), api.ErrNone)
	wantErr(t, "none by a long name", d.Rename(long+"n", "a"), api.ErrNone)
	wantErr(t, "none to itself", d.Rename("x", "x"), api.ErrNone)
	wantFiles(t, "errors turn nothing", d, "a=1 b=22")
	wantErr(t, "to itself", d.Rename("a", "a"), api.OK)
	wantFiles(t, "to itself", d, "a=1 b=22")
	wantErr(t, "over another", d.Rename("a", "b"), api.OK)
	wantFiles(t, "over another", d, "b=1")
	wantErr(t, "80 bytes", d.Rename("b", long), api.OK)
	wantFiles(t, "to another", d, long+"=1")
}

func TestRemove(t *testing.T) {
	d := disk.New(10)
	must(t, d.Write("a", ""), d.Write("b", "22"))
	wantErr(t, "none", d.Remove("x"), api.ErrNone)
	wantErr(t, "no name", d.Remove(""), api.ErrNone)
	wantErr(t, "a long name", d.Remove(strings.Repeat("n", 81)), api.ErrNone)
	wantErr(t, "an empty file", d.Remove("a"), api.OK)
	wantErr(t, "again", d.Remove("a"), api.ErrNone)
	wantFiles(t, "the other stays", d, "b=22")
}

func TestRead(t *testing.T) {
	d := disk.New(10)
	must(t, d.Write("a", "1"), d.Write("e", ""))
	for _, c := range []struct {
		name, text string
		e          api.Errno
	}{{"a", "1", api.OK}, {"e", "", api.OK}, {"x", "", api.ErrNone}, {"", "", api.ErrNone}} {
		if text, e := d.Read(c.name); text != c.text || e != c.e {
			t.Error(c.name, text, e)
		}
	}
}

func TestNamesAreInOrderAndNew(t *testing.T) {
	d := disk.New(10)
	want := []string{"B", "a", "a-", "aa", "b", "\u00e4", "\xff"}
	for _, i := range []int{4, 2, 6, 0, 5, 3, 1} {
		must(t, d.Write(want[i], ""))
	}
	got := d.Names()
	if !slices.Equal(got, want) {
		t.Errorf("%q", got)
	}
	got[0] = "turned"
	if again := d.Names(); !slices.Equal(again, want) {
		t.Errorf("%q", again)
	}
}

func TestCrashAsTheDocumentSays(t *testing.T) {
	d := disk.New(10)
	must(t, d.Write("a", "1"), d.Sync(), d.Write("b", "2"), d.Rename("b", "a"))
	wantFiles(t, "the rename alone", d.Crash(false, true), "a=1")
	wantFiles(t, "both", d.Crash(true, true), "a=2")
}

func TestCrashKeepsWhatItIsTold(t *testing.T) {
	d := disk.New(20)
	must(t, d.Write("a", "1"), d.Write("b", "2"), d.Sync(),
		d.Write("a", "11"), d.Rename("a", "c"), d.Remove("b"), d.Write("b", "22"), d.Rename("b", "b"))
	wantErr(t, "no change", d.Remove("x"), api.ErrNone)
	must(t, d.Remove("c"))
	for _, c := range []struct{ keep, want string }{
		{"", "a=1 b=2"},
		{"n", "a=1 b=2"},
		{"y", "a=11 b=2"},
		{"ny", "b=2 c=1"},
		{"yy", "b=2 c=11"},
		{"nnnnny", "a=1 b=2"},
		{"nyyyyn", "b=22 c=1"},
		{"nynnny", "b=2"},
		{"nnyny", "a=1"},
		{"nnnyy", "a=1 b=22"},
		{"nny", "a=1"},
		{"yyyyyy", "b=22"},
		{"yyyyyyyyyyy", "b=22"},
		{"nnnnnnyyyyy", "a=1 b=2"},
	} {
		var keep []bool
		for _, k := range c.keep {
			keep = append(keep, k == 'y')
		}
		wantFiles(t, c.keep, d.Crash(keep...), c.want)
	}
	wantFiles(t, "the disk itself", d, "b=22")
}

func TestCrashForgetsChangesBehindSync(t *testing.T) {
	d := disk.New(10)
	must(t, d.Write("a", "1"), d.Rename("a", "b"), d.Write("c", "3"), d.Remove("c"), d.Sync())
	wantFiles(t, "safe", d.Crash(), "b=1")
	must(t, d.Write("c", "3"))
	wantFiles(t, "the first behind Sync", d.Crash(true), "b=1 c=3")
	must(t, d.Sync())
	wantFiles(t, "safe too", d.Crash(), "b=1 c=3")
}

func TestCrashedDiskHasPowerRoomAndNoChanges(t *testing.T) {
	d := disk.New(10)
	must(t, d.Write("a", "1"), d.Sync(), d.Write("b", "22"), d.Write("c", "333"))
	d.Fall(0)
	wantErr(t, "falls", d.Sync(), api.ErrDown)
	c := d.Crash(true)
	if c.Down() {
		t.Error("down")
	}
	wantRoom(t, "as much room", c, 7)
	for range 5 {
		must(t, c.Sync())
	}
	c = d.Crash(true)
	wantFiles(t, "what was kept is safe", c.Crash(), "a=1 b=22")
	wantFiles(t, "no change is left", c.Crash(true, true, true), "a=1 b=22")
	must(t, c.Write("b", "4"))
	wantFiles(t, "a change of its own", c.Crash(false), "a=1 b=22")
	wantFiles(t, "apart", d.Crash(true, true), "a=1 b=22 c=333")

	d = disk.New(10)
	d.Fall(1)
	c = d.Crash()
	must(t, c.Sync(), c.Sync(), c.Sync())
}

func TestCrashMayLeaveMoreThanThereIsRoomFor(t *testing.T) {
	d := disk.New(10)
	must(t, d.Write("a", "1234567890"), d.Sync(), d.Write("a", ""), d.Write("b", "123456"))
	c := d.Crash(false, true)
	wantFiles(t, "both", c, "a=1234567890 b=123456")
	wantRoom(t, "less than none", c, -6)
	wantErr(t, "a file more", c.Write("c", ""), api.ErrFull)
	wantErr(t, "as long as it is", c.Write("a", "1234567890"), api.ErrFull)
	wantErr(t, "short enough", c.Write("a", "1234"), api.OK)
	wantRoom(t, "just", c, 0)
}

func TestCloneIsTheSameApart(t *testing.T) {
	d := disk.New(10)
	must(t, d.Write("a", "1"), d.Sync(), d.Write("b", "22"))
	d.Fall(2)
	c := d.Clone()
	must(t, d.Write("a", "9"))
	wantFiles(t, "apart", c, "a=1 b=22")
	wantRoom(t, "room", c, 7)
	wantFiles(t, "its changes", c.Crash(true), "a=1 b=22")
	wantFiles(t, "its changes", c.Crash(true, true), "a=1 b=22")
	wantFiles(t, "what is safe", c.Crash(), "a=1")
	must(t, c.Remove("a"), c.Sync())
	wantErr(t, "it falls", c.Sync(), api.ErrDown)
	if d.Down() {
		t.Error("not apart")
	}
	wantFiles(t, "the one", d, "a=9 b=22")
	wantFiles(t, "the one, crashed", d.Crash(true, true), "a=9 b=22")
	wantFiles(t, "the one, as it was safe", d.Crash(), "a=1")
	wantFiles(t, "the other, crashed", c.Crash(), "b=22")
	if !c.Clone().Down() {
		t.Error("a clone without power has some")
	}
}

func TestClonesChangesAreApart(t *testing.T) {
	d := disk.New(10)
	for range 3 {
		must(t, d.Write("a", "1"))
	}
	c := d.Clone()
	must(t, d.Write("b", "2"), c.Write("c", "3"))
	wantFiles(t, "the one", d.Crash(false, false, false, true), "b=2")
	wantFiles(t, "the other", c.Crash(false, false, false, true), "c=3")
}

func TestNilDisk(t *testing.T) {
	var d *disk.Disk
	d.Fall(1)
	if !d.Down() || len(d.Names()) != 0 || d.Clone() != nil {
		t.Error(d.Down(), d.Names(), d.Clone())
	}
	wantRoom(t, "nil", d, 0)
	for i, e := range []api.Errno{d.Write("a", "1"), d.Write("", ""), d.Rename("a", "b"), d.Remove("a"), d.Sync()} {
		if e != api.ErrDown {
			t.Error(i, e)
		}
	}
	if text, e := d.Read("a"); text != "" || e != api.ErrDown {
		t.Error(text, e)
	}
	c := d.Crash(true)
	wantRoom(t, "crashed", c, disk.MaxRoom)
	if c.Down() || len(c.Names()) != 0 {
		t.Error(c.Down(), c.Names())
	}
	must(t, c.Write("a", "1"))
}

func TestZeroDiskHasNoRoom(t *testing.T) {
	var d disk.Disk
	wantRoom(t, "zero", &d, 0)
	wantErr(t, "a text", d.Write("a", "1"), api.ErrFull)
	must(t, d.Write("a", ""), d.Sync())
	wantFiles(t, "an empty file", d.Crash(), "a=")
}
