package disk_test

import (
	"fmt"
	"math"
	"math/rand"
	"slices"
	"strings"
	"testing"
	"unsafe"

	"palaver/api"
	"palaver/disk"
)

type files = []disk.File

// with is a disk of these files, each with its first bytes synced.
func with(t *testing.T, l ...disk.File) *disk.Disk {
	t.Helper()
	d := disk.New()
	for _, f := range l {
		ok(t, d.Append(f.Name, f.Bytes[:f.Synced]))
		ok(t, d.Sync(f.Name))
		ok(t, d.Append(f.Name, f.Bytes[f.Synced:]))
	}
	return d
}

func ok(t *testing.T, e api.Errno) {
	t.Helper()
	is(t, e, api.OK)
}

func is(t *testing.T, e, want api.Errno) {
	t.Helper()
	if e != want {
		t.Errorf("%v, not %v", e, want)
	}
}

// has holds all that a disk tells against what it should.
func has(t *testing.T, d *disk.Disk, room int, dead bool, l ...disk.File) {
	t.Helper()
	if got := d.Files(); !slices.Equal(got, l) {
		t.Errorf("Files: %v, not %v", got, l)
	}
	if d.Room() != room || d.Dead() != dead {
		t.Errorf("Room, Dead: %d, %v, not %d, %v", d.Room(), d.Dead(), room, dead)
	}
}

// The chapter's examples.
func TestExamples(t *testing.T) {
	d := disk.New()
	ok(t, d.Append("a", "xy"))
	ok(t, d.Sync("a"))
	ok(t, d.Append("a", "z"))
	ok(t, d.Crash(0))
	has(t, d, api.MaxDisk-2, true, disk.File{Name: "a", Bytes: "xy", Synced: 2})

	d = disk.New()
	ok(t, d.Fuse(1))
	is(t, d.Append("a", "xy"), api.ErrTorn)
	has(t, d, api.MaxDisk-1, true, disk.File{Name: "a", Bytes: "x"})

	d = disk.New()
	ok(t, d.SetRoom(1))
	is(t, d.Append("a", "xy"), api.ErrFull)
	has(t, d, 1, false)
}

// P4.1 to P4.4: a new disk has no file, room for MaxDisk bytes, power, and no
// fuse.
func TestNew(t *testing.T) {
	d := disk.New()
	has(t, d, 1<<22, false)
	ok(t, d.Append("a", strings.Repeat("x", 1<<22)))
	if d.Room() != 0 {
		t.Error(d.Room())
	}
	is(t, d.Append("a", "x"), api.ErrFull)
	has(t, disk.New(), 1<<22, false)
}

// all is every call that answers an error, with arguments that may be.
func all(d *disk.Disk) []api.Errno {
	_, e := d.Read("a")
	return []api.Errno{e, d.Append("a", "x"), d.Sync("a"), d.Cut("a", 1), d.Remove("a"), d.Fuse(1), d.Crash(0), d.SetRoom(5), d.Turn(0), d.Start()}
}

// wrong is every call that answers an error, with arguments that may not be.
func wrong(d *disk.Disk) []api.Errno {
	_, e := d.Read("")
	return []api.Errno{e, d.Append("", "x"), d.Sync(""), d.Cut("", -1), d.Remove(""), d.Fuse(-1), d.Crash(-1), d.SetRoom(-1), d.Turn(-1)}
}

// R1, P4.1 to P4.4: of a nil disk there is nothing, whatever it is handed.
func TestNilDisk(t *testing.T) {
	var d *disk.Disk
	for i, e := range append(all(d), wrong(d)...) {
		if e != api.ErrNil {
			t.Error(i, e)
		}
	}
	has(t, d, 0, false)
	if f, _ := d.Read("a"); f != (disk.File{}) {
		t.Error(f)
	}
}

// P4.1, P4.2, P4.3: what needs power answers ErrDead ahead of all else, and
// does nothing; SetRoom, Turn and Start need none; Files, Room and Dead tell.
func TestWithoutPower(t *testing.T) {
	d := with(t, disk.File{Name: "a", Bytes: "xyz", Synced: 1})
	ok(t, d.Crash(-1))
	is := []api.Errno{api.ErrDead, api.ErrDead, api.ErrDead, api.ErrDead, api.ErrDead, api.ErrDead, api.ErrDead}
	if got := wrong(d); !slices.Equal(got, append(slices.Clone(is), api.ErrArg, api.ErrArg)) {
		t.Error(got)
	}
	has(t, d, api.MaxDisk-3, true, disk.File{Name: "a", Bytes: "xyz", Synced: 1})
	if got := all(d); !slices.Equal(got, append(slices.Clone(is), api.OK, api.OK, api.OK)) {
		t.Error(got)
	}
	has(t, d, 5, false, disk.File{Name: "a", Bytes: "yyz", Synced: 1})
	if f, e := d.Read("a"); f != (disk.File{Name: "a", Bytes: "yyz", Synced: 1}) || e != api.OK {
		t.Error(f, e)
	}
	ok(t, d.Crash(0))
	if f, e := d.Read("a"); f != (disk.File{}) || e != api.ErrDead {
		t.Error(f, e)
	}
}

// P4.1: a name has 1 to 24 bytes, whatever they are.
func TestNames(t *testing.T) {
	for _, name := range []string{"a", "\x00", " ", "\xff\xfe", "a/b", strings.Repeat("n", 23), strings.Repeat("n", 24), strings.Repeat("ä", 12)} {
		d := disk.New()
		ok(t, d.Append(name, "x"))
		has(t, d, api.MaxDisk-1, false, disk.File{Name: name, Bytes: "x"})
	}
	for _, name := range []string{"", strings.Repeat("n", 25), strings.Repeat("ä", 13), strings.Repeat("n", 1<<16)} {
		d := disk.New()
		is(t, d.Append(name, "x"), api.ErrArg)
		is(t, d.Append(name, ""), api.ErrArg)
		is(t, d.Sync(name), api.ErrNone)
		is(t, d.Cut(name, 0), api.ErrNone)
		is(t, d.Cut(name, -1), api.ErrNone)
		is(t, d.Remove(name), api.ErrNone)
		if f, e := d.Read(name); f != (disk.File{}) || e != api.ErrNone {
			t.Error(f, e)
		}
		has(t, d, api.MaxDisk, false)
	}
}

// P4.1: what is appended stands behind what is there, not synced.
func TestAppend(t *testing.T) {
	d := disk.New()
	ok(t, d.Append("b", "one"))
	ok(t, d.Append("a", "\x00\xff"))
	ok(t, d.Append("b", "two"))
	has(t, d, api.MaxDisk-8, false, disk.File{Name: "a", Bytes: "\x00\xff"}, disk.File{Name: "b", Bytes: "onetwo"})
	ok(t, d.Sync("b"))
	ok(t, d.Append("b", "!"))
	has(t, d, api.MaxDisk-9, false, disk.File{Name: "a", Bytes: "\x00\xff"}, disk.File{Name: "b", Bytes: "onetwo!", Synced: 6})
	ok(t, d.Append("b", ""))
	ok(t, d.Append("c", ""))
	has(t, d, api.MaxDisk-9, false, disk.File{Name: "a", Bytes: "\x00\xff"}, disk.File{Name: "b", Bytes: "onetwo!", Synced: 6}, disk.File{Name: "c"})
}

// P4.1: room for just so many bytes is enough, for one fewer is not; text of no
// bytes needs none, also in a file that was not there.
func TestFullOfBytes(t *testing.T) {
	for _, there := range []bool{false, true} {
		for room := range 6 {
			d := disk.New()
			var l files
			if there {
				ok(t, d.Append("a", "xy"))
				l = files{{Name: "a", Bytes: "xy"}}
			}
			ok(t, d.SetRoom(room))
			e := d.Append("a", "123")
			if room < 3 {
				is(t, e, api.ErrFull)
				has(t, d, room, false, l...)
				ok(t, d.Append("a", ""))
				has(t, d, room, false, disk.File{Name: "a", Bytes: map[bool]string{true: "xy"}[there]})
				continue
			}
			ok(t, e)
			has(t, d, room-3, false, disk.File{Name: "a", Bytes: map[bool]string{true: "xy"}[there] + "123"})
		}
	}
}

// P4.1: a file that was not there needs fewer than MaxFiles others; one that is
// there does not.
func TestFullOfFiles(t *testing.T) {
	d := disk.New()
	for i := range 1000 {
		is(t, d.Append(fmt.Sprint("f", i), ""), api.OK)
	}
	before := d.Files()
	is(t, d.Append("g", ""), api.ErrFull)
	is(t, d.Append("g", "x"), api.ErrFull)
	has(t, d, api.MaxDisk, false, before...)
	is(t, d.Append("", "x"), api.ErrArg)
	ok(t, d.Append("f7", "x"))
	ok(t, d.Remove("f8"))
	ok(t, d.Append("g", "x"))
	is(t, d.Append("f8", "x"), api.ErrFull)
	if l := d.Files(); len(l) != 1000 {
		t.Error(len(l))
	}
}

// P4.1, P4.3: a fuse of fewer bytes than these lets so many be written, and
// takes the power; one of as many, or of more, is so many less.
func TestFuse(t *testing.T) {
	for fuse := range 8 {
		d := with(t, disk.File{Name: "a", Bytes: "xy", Synced: 1})
		ok(t, d.Fuse(fuse))
		has(t, d, api.MaxDisk-2, false, disk.File{Name: "a", Bytes: "xy", Synced: 1})
		ok(t, d.Append("b", ""))
		e := d.Append("a", "1234")
		if fuse < 4 {
			is(t, e, api.ErrTorn)
			has(t, d, api.MaxDisk-2-fuse, true, disk.File{Name: "a", Bytes: "xy1234"[:2+fuse], Synced: 1}, disk.File{Name: "b"})
			continue
		}
		ok(t, e)
		has(t, d, api.MaxDisk-6, false, disk.File{Name: "a", Bytes: "xy1234", Synced: 1}, disk.File{Name: "b"})
		is(t, d.Append("b", "56789"), api.ErrTorn)
		has(t, d, api.MaxDisk-2-fuse, true, disk.File{Name: "a", Bytes: "xy1234", Synced: 1}, disk.File{Name: "b", Bytes: "56789"[:fuse-4]})
	}
}

// P4.1: a file that was not there is there, even if a fuse lets no byte of it
// be written.
func TestFuseOfNone(t *testing.T) {
	d := disk.New()
	ok(t, d.Fuse(0))
	ok(t, d.Append("a", ""))
	is(t, d.Append("b", "x"), api.ErrTorn)
	has(t, d, api.MaxDisk, true, disk.File{Name: "a"}, disk.File{Name: "b"})
}

// P4.1: a full disk burns no fuse; what may not be burns none, too.
func TestFuseAndFull(t *testing.T) {
	d := disk.New()
	ok(t, d.SetRoom(2))
	ok(t, d.Fuse(1))
	is(t, d.Append("a", "xyz"), api.ErrFull)
	is(t, d.Append("", "xy"), api.ErrArg)
	has(t, d, 2, false)
	is(t, d.Append("a", "xy"), api.ErrTorn)
	has(t, d, 1, true, disk.File{Name: "a", Bytes: "x"})
}

// P4.3: a later fuse stands for an earlier one; below 0 there is none.
func TestFuseAgain(t *testing.T) {
	for _, none := range []int{-1, -2, math.MinInt} {
		d := disk.New()
		ok(t, d.Fuse(0))
		ok(t, d.Fuse(none))
		ok(t, d.Append("a", "xyz"))
		ok(t, d.Fuse(1))
		ok(t, d.Fuse(3))
		ok(t, d.Append("a", "123"))
		ok(t, d.Fuse(math.MaxInt))
		ok(t, d.Append("a", "456"))
		has(t, d, api.MaxDisk-9, false, disk.File{Name: "a", Bytes: "xyz123456"})
	}
}

// P4.3: the fuse is gone with the power, however that goes; where power comes
// that there is, it stays.
func TestFuseGone(t *testing.T) {
	d := disk.New()
	ok(t, d.Fuse(2))
	ok(t, d.Crash(0))
	is(t, d.Fuse(0), api.ErrDead)
	ok(t, d.Start())
	ok(t, d.Append("a", "xyz"))

	ok(t, d.Fuse(1))
	is(t, d.Append("a", "12"), api.ErrTorn)
	ok(t, d.Start())
	ok(t, d.Append("a", "345"))
	has(t, d, api.MaxDisk-7, false, disk.File{Name: "a", Bytes: "xyz1345"})

	ok(t, d.Fuse(1))
	ok(t, d.Start())
	is(t, d.Append("a", "67"), api.ErrTorn)
	has(t, d, api.MaxDisk-8, true, disk.File{Name: "a", Bytes: "xyz13456"})
}

// P4.1: all of one file's bytes are synced, and of no other one.
func TestSync(t *testing.T) {
	d := with(t, disk.File{Name: "a", Bytes: "xyz", Synced: 1}, disk.File{Name: "b", Bytes: "12"}, disk.File{Name: "c"})
	ok(t, d.Sync("a"))
	ok(t, d.Sync("a"))
	ok(t, d.Sync("c"))
	has(t, d, api.MaxDisk-5, false, disk.File{Name: "a", Bytes: "xyz", Synced: 3}, disk.File{Name: "b", Bytes: "12"}, disk.File{Name: "c"})
	is(t, d.Sync("d"), api.ErrNone)
	has(t, d, api.MaxDisk-5, false, disk.File{Name: "a", Bytes: "xyz", Synced: 3}, disk.File{Name: "b", Bytes: "12"}, disk.File{Name: "c"})
}

// P4.2: from what is synced up to the end, the first n bytes are left, and the
// others' room is given back.
func TestCut(t *testing.T) {
	for n := -1; n <= 6; n++ {
		d := with(t, disk.File{Name: "a", Bytes: "12345", Synced: 2}, disk.File{Name: "b", Bytes: "x"})
		e := d.Cut("a", n)
		if n < 2 || n > 5 {
			is(t, e, api.ErrArg)
			has(t, d, api.MaxDisk-6, false, disk.File{Name: "a", Bytes: "12345", Synced: 2}, disk.File{Name: "b", Bytes: "x"})
			continue
		}
		ok(t, e)
		has(t, d, api.MaxDisk-1-n, false, disk.File{Name: "a", Bytes: "12345"[:n], Synced: 2}, disk.File{Name: "b", Bytes: "x"})
		ok(t, d.Append("a", "!"))
		has(t, d, api.MaxDisk-2-n, false, disk.File{Name: "a", Bytes: "12345"[:n] + "!", Synced: 2}, disk.File{Name: "b", Bytes: "x"})
	}
	d := with(t, disk.File{Name: "a", Bytes: "12"})
	for _, n := range []int{math.MinInt, -1, 3, math.MaxInt} {
		is(t, d.Cut("a", n), api.ErrArg)
		is(t, d.Cut("b", n), api.ErrNone)
	}
	is(t, d.Cut("b", 0), api.ErrNone)
	ok(t, d.Cut("a", 0))
	ok(t, d.Cut("a", 0))
	has(t, d, api.MaxDisk, false, disk.File{Name: "a"})
}

// P4.2: a file that is removed is gone, synced or not, and gives its room back;
// another one of its name has nothing of it.
func TestRemove(t *testing.T) {
	d := with(t, disk.File{Name: "a", Bytes: "xyz", Synced: 2}, disk.File{Name: "b", Bytes: "12"})
	is(t, d.Remove("c"), api.ErrNone)
	ok(t, d.Remove("a"))
	has(t, d, api.MaxDisk-2, false, disk.File{Name: "b", Bytes: "12"})
	is(t, d.Remove("a"), api.ErrNone)
	is(t, d.Sync("a"), api.ErrNone)
	ok(t, d.Append("a", "q"))
	has(t, d, api.MaxDisk-3, false, disk.File{Name: "a", Bytes: "q"}, disk.File{Name: "b", Bytes: "12"})
}

// P4.2: Read tells one file.
func TestRead(t *testing.T) {
	l := files{{Name: "a", Bytes: "xyz", Synced: 2}, {Name: "ab", Bytes: "12", Synced: 2}, {Name: "b"}}
	d := with(t, l...)
	for _, want := range l {
		if f, e := d.Read(want.Name); f != want || e != api.OK {
			t.Error(f, e)
		}
	}
	for _, name := range []string{"", "c", "A", "a\x00", strings.Repeat("n", 25)} {
		if f, e := d.Read(name); f != (disk.File{}) || e != api.ErrNone {
			t.Error(f, e)
		}
	}
	has(t, d, api.MaxDisk-5, false, l...)
}

// P4.3: the room is n, whatever the files have; bytes that go give theirs back
// on top of it.
func TestSetRoom(t *testing.T) {
	d := with(t, disk.File{Name: "a", Bytes: "xyz"})
	for _, n := range []int{math.MinInt, -1, 1<<22 + 1, math.MaxInt} {
		is(t, d.SetRoom(n), api.ErrArg)
		has(t, d, api.MaxDisk-3, false, disk.File{Name: "a", Bytes: "xyz"})
	}
	for _, n := range []int{0, 1, 77, 1 << 22} {
		ok(t, d.SetRoom(n))
		has(t, d, n, false, disk.File{Name: "a", Bytes: "xyz"})
	}
	ok(t, d.Cut("a", 1))
	has(t, d, api.MaxDisk+2, false, disk.File{Name: "a", Bytes: "x"})
	ok(t, d.Crash(0))
	has(t, d, api.MaxDisk+3, true, disk.File{Name: "a"})
	ok(t, d.SetRoom(1))
	is(t, d.SetRoom(-1), api.ErrArg)
	has(t, d, 1, true, disk.File{Name: "a"})
}

// P4.3: of all that is not synced, file by file, the first bytes stay; the
// others give their room back; the power is gone. What stays is not synced.
func TestCrash(t *testing.T) {
	l := files{{Name: "a", Bytes: "ABcd", Synced: 2}, {Name: "b", Bytes: "efg"}, {Name: "c", Bytes: "HI", Synced: 2}, {Name: "d", Bytes: "Jkl", Synced: 1}}
	loose := []int{2, 3, 0, 2}
	for keep := -2; keep <= 9; keep++ {
		d := with(t, l...)
		ok(t, d.Crash(keep))
		want, room, left := slices.Clone(l), api.MaxDisk-12, keep
		if keep < 0 {
			left = 100
		}
		for i := range want {
			lost := max(0, loose[i]-left)
			left = max(0, left-loose[i])
			want[i].Bytes = l[i].Bytes[:len(l[i].Bytes)-lost]
			room += lost
		}
		has(t, d, room, true, want...)
		ok(t, d.Start())
		ok(t, d.Crash(0))
		for i := range want {
			want[i].Bytes = l[i].Bytes[:l[i].Synced]
		}
		has(t, d, api.MaxDisk-5, true, want...)
	}
	for _, keep := range []int{math.MinInt, math.MaxInt} {
		d := with(t, l...)
		ok(t, d.Crash(keep))
		has(t, d, api.MaxDisk-12, true, l...)
	}
}

// P4.3: every bit of all files' bytes, and no other, is turned; a turn back
// undoes it.
func TestTurn(t *testing.T) {
	l := files{{Name: "B", Bytes: "\x00\xff"}, {Name: "a"}, {Name: "b", Bytes: "xyz", Synced: 2}, {Name: "c", Bytes: "!"}}
	d := with(t, l...)
	is(t, d.Turn(0), api.ErrArg)
	is(t, d.Turn(-1), api.ErrArg)
	ok(t, d.Crash(-1))
	for bit := range 48 {
		bytes := []byte("\x00\xffxyz!")
		bytes[bit/8] ^= []byte{1, 2, 4, 8, 16, 32, 64, 128}[bit%8]
		want := slices.Clone(l)
		want[0].Bytes, want[2].Bytes, want[3].Bytes = string(bytes[:2]), string(bytes[2:5]), string(bytes[5:])
		ok(t, d.Turn(bit))
		has(t, d, api.MaxDisk-6, true, want...)
		ok(t, d.Turn(bit))
	}
	for _, bit := range []int{48, 49, 56, math.MaxInt, -1, -7, -8, math.MinInt} {
		is(t, d.Turn(bit), api.ErrArg)
		has(t, d, api.MaxDisk-6, true, l...)
	}
	empty := disk.New()
	ok(t, empty.Crash(0))
	is(t, empty.Turn(0), api.ErrArg)
}

// P4.3: behind Start there is power, and all the rest is as it was.
func TestStart(t *testing.T) {
	d := with(t, disk.File{Name: "a", Bytes: "xyz", Synced: 1})
	ok(t, d.Start())
	has(t, d, api.MaxDisk-3, false, disk.File{Name: "a", Bytes: "xyz", Synced: 1})
	ok(t, d.Crash(1))
	ok(t, d.Start())
	has(t, d, api.MaxDisk-2, false, disk.File{Name: "a", Bytes: "xy", Synced: 1})
	ok(t, d.Append("a", "!"))
	has(t, d, api.MaxDisk-3, false, disk.File{Name: "a", Bytes: "xy!", Synced: 1})
}

// P4.4: files stand in the order of their names, byte by byte, a name ahead of
// those that it begins, however they came.
func TestFilesInOrder(t *testing.T) {
	names := []string{"\x00", "\x00\x00", "0", "1", "10", "2", "A", "Z", "a", "aa", "ab", "b", "z", "\x7f", "\x80", "ä", "\xff", "\xff\x00", "\xff\xff"}
	for seed := range int64(50) {
		r := rand.New(rand.NewSource(seed))
		d := disk.New()
		for _, i := range r.Perm(len(names)) {
			ok(t, d.Append(names[i], fmt.Sprint(i)))
		}
		var want files
		for i, name := range names {
			want = append(want, disk.File{Name: name, Bytes: fmt.Sprint(i)})
		}
		has(t, d, d.Room(), false, want...)
	}
}

// P4.5: what is synced stays, whatever comes but Turn and Remove; what is
// behind it, behind an end of the power, is a beginning of what was written.
func TestWhatFollows(t *testing.T) {
	names := []string{"a", "b", "c"}
	for seed := range int64(300) {
		r := rand.New(rand.NewSource(seed))
		d := disk.New()
		synced, written := map[string]string{}, map[string]string{}
		for range 150 {
			what, do := act(r, names)
			switch what {
			case "Turn", "Remove":
				continue
			case "Append":
				name, s := names[r.Intn(3)], "pqrstuvw"[:r.Intn(9)]
				if e := d.Append(name, s); e == api.OK || e == api.ErrTorn {
					written[name] += s
				}
			default:
				do(d)
			}
			now := map[string]disk.File{}
			for _, f := range d.Files() {
				now[f.Name] = f
			}
			for _, name := range names {
				f := now[name]
				if !strings.HasPrefix(f.Bytes[:f.Synced], synced[name]) {
					t.Fatalf("seed %d, %s: %v, behind %q that were synced", seed, what, f, synced[name])
				}
				if !strings.HasPrefix(written[name], f.Bytes) {
					t.Fatalf("seed %d, %s: %v, of %q that were written", seed, what, f, written[name])
				}
				synced[name], written[name] = f.Bytes[:f.Synced], f.Bytes
			}
		}
	}
}

// R2: two disks have nothing of one another.
func TestNothingIsLeft(t *testing.T) {
	a, b := disk.New(), disk.New()
	ok(t, a.Append("a", "xyz"))
	ok(t, a.SetRoom(7))
	ok(t, a.Fuse(0))
	ok(t, b.Append("b", "12"))
	ok(t, a.Crash(0))
	has(t, b, api.MaxDisk-2, false, disk.File{Name: "b", Bytes: "12"})
	has(t, a, 10, true, disk.File{Name: "a"})
	has(t, disk.New(), api.MaxDisk, false)
}

// R3: what a disk has is its own: it does not change with the bytes that it was
// handed, nor with the list that it handed out.
func TestNewMemory(t *testing.T) {
	name, text := []byte("name"), []byte("text")
	d := disk.New()
	ok(t, d.Append(unsafe.String(&name[0], 4), unsafe.String(&text[0], 4)))
	ok(t, d.Append("x", ""))
	f, _ := d.Read(unsafe.String(&name[0], 4))
	copy(name, "NAME")
	copy(text, "TEXT")
	want := files{{Name: "name", Bytes: "text"}, {Name: "x"}}
	has(t, d, api.MaxDisk-4, false, want...)
	if f != want[0] {
		t.Error(f)
	}
	l := d.Files()
	l = append(l[:0], disk.File{Name: "q"}, disk.File{Name: "r"}, disk.File{Name: "s"})
	has(t, d, api.MaxDisk-4, false, want...)
	if l[0].Name != "q" {
		t.Error(l)
	}
}

// R3: a file that was handed out does not change with the disk.
func TestHandedOutStays(t *testing.T) {
	d := with(t, disk.File{Name: "a", Bytes: "xyz"})
	f, _ := d.Read("a")
	l := d.Files()
	ok(t, d.Cut("a", 1))
	ok(t, d.Append("a", "123"))
	ok(t, d.Sync("a"))
	ok(t, d.Crash(-1))
	ok(t, d.Turn(0))
	ok(t, d.Start())
	ok(t, d.Remove("a"))
	if f != (disk.File{Name: "a", Bytes: "xyz"}) || !slices.Equal(l, files{f}) {
		t.Error(f, l)
	}
}
