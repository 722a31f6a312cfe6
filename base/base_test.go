package base_test

import (
	"fmt"
	"slices"
	"strings"
	"testing"

	"palaver/api"
	"palaver/base"
	"palaver/disk"
	"palaver/frame"
	"palaver/wire"
)

type files = []disk.File

const greatest = 1<<64 - 1

// file is the name of a slot's file.
func file(slot uint64) string { return fmt.Sprintf("b%016x", slot) }

// inside is that of a base's frame.
func inside(slot uint64, text string) string {
	return string(wire.Str(wire.Num(nil, slot), text))
}

// framed is the frame of an inside.
func framed(inside string) string {
	b, _ := frame.Put(nil, inside)
	return string(b)
}

// whole are the bytes of a base's file.
func whole(slot uint64, text string) string { return framed(inside(slot, text)) }

// named is a file of which so many bytes are synced.
func named(name, b string, synced int) disk.File {
	return disk.File{Name: name, Bytes: b, Synced: synced}
}

// good is a base's file.
func good(slot uint64, text string) disk.File {
	b := whole(slot, text)
	return named(file(slot), b, len(b))
}

// young is a file of these bytes, of which none is synced.
func young(slot uint64, b string) disk.File { return named(file(slot), b, 0) }

// other is a slot's file of other bytes, all of them synced.
func other(slot uint64, b string) disk.File { return named(file(slot), b, len(b)) }

// with is a disk of these files.
func with(t *testing.T, l ...disk.File) *disk.Disk {
	t.Helper()
	d := disk.New()
	for _, f := range l {
		ok(t, d.Append(f.Name, f.Bytes[:f.Synced]))
		ok(t, d.Sync(f.Name))
		ok(t, d.Append(f.Name, f.Bytes[f.Synced:]))
	}
	return d
}

// opened is the store of a disk of these files.
func opened(t *testing.T, l ...disk.File) (*base.Store, *disk.Disk) {
	t.Helper()
	d := with(t, l...)
	s, e := base.Open(d)
	ok(t, e)
	return s, d
}

func ok(t *testing.T, e api.Errno) {
	t.Helper()
	is(t, e, api.OK)
}

func is(t *testing.T, e, want api.Errno) {
	t.Helper()
	if e != want {
		t.Errorf("%v, not %v", e, want)
	}
}

// has holds a disk's files against what they should be.
func has(t *testing.T, d *disk.Disk, l ...disk.File) {
	t.Helper()
	if got := d.Files(); !slices.Equal(got, l) {
		t.Errorf("Files: %.300q, not %.300q", fmt.Sprint(got), fmt.Sprint(l))
	}
}

// tells holds a store's base against what it should be; of slot 0: none.
func tells(t *testing.T, s *base.Store, slot uint64, text string) {
	t.Helper()
	got, b, there := s.Base()
	if got != slot || b != text || there != (slot != 0) {
		t.Errorf("Base: %d, %.100q, %v, not %d, %.100q", got, b, there, slot, text)
	}
}

// reopened opens a disk, holds its base against what it should be, and answers
// the store.
func reopened(t *testing.T, d *disk.Disk, slot uint64, text string) *base.Store {
	t.Helper()
	s, e := base.Open(d)
	ok(t, e)
	tells(t, s, slot, text)
	return s
}

// halts opens a disk that is spoilt: it is told so, again and again, and the
// disk stays as it is.
func halts(t *testing.T, d *disk.Disk) {
	t.Helper()
	before, room := d.Files(), d.Room()
	for range 2 {
		if s, e := base.Open(d); s != nil || e != api.ErrHalt {
			t.Errorf("Open: %v, %v", s, e)
		}
		if !slices.Equal(d.Files(), before) || d.Room() != room || d.Dead() {
			t.Errorf("the disk is not as it was: %.300q", fmt.Sprint(d.Files()))
		}
	}
}

// The chapter's examples.
func TestExamples(t *testing.T) {
	s, d := opened(t)
	ok(t, s.Save(18, "x"))
	has(t, d, named("b0000000000000012", "\x03"+whole(18, "x")[1:9]+"\x12\x01x", 12))
	ok(t, s.Save(20, "y"))
	has(t, d, named("b0000000000000014", whole(20, "y"), 12))
	ok(t, d.Append("b000000000000001f", "z"))
	s = reopened(t, d, 20, "y")
	has(t, d, good(20, "y"))
}

// R1, P6.1 to P6.3: of a nil disk there is no store; a nil store has no base,
// and saves none, whatever it is handed.
func TestNil(t *testing.T) {
	if s, e := base.Open(nil); s != nil || e != api.ErrNil {
		t.Error(s, e)
	}
	var s *base.Store
	tells(t, s, 0, "")
	for _, slot := range []uint64{0, 1, greatest} {
		for _, text := range []string{"", "x", strings.Repeat("x", api.MaxFrame+1)} {
			is(t, s.Save(slot, text), api.ErrNil)
		}
	}
}

// P6.1: without power there is no store, also if there are no files, or what
// there is is spoilt, and nothing is removed.
func TestOpenWithoutPower(t *testing.T) {
	for _, l := range []files{
		nil,
		{good(1, "a")},
		{good(1, "a"), good(2, "b"), young(3, "c")},
		{other(1, "junk")},
		{young(1, "")},
	} {
		d := with(t, l...)
		ok(t, d.Crash(-1))
		if s, e := base.Open(d); s != nil || e != api.ErrDead {
			t.Error(s, e)
		}
		has(t, d, l...)
	}
}

// P6.1, P6.2: a disk without files of the form has no base.
func TestNoBase(t *testing.T) {
	s, d := opened(t)
	tells(t, s, 0, "")
	has(t, d)
	s = reopened(t, d, 0, "")
	ok(t, s.Save(1, ""))
	tells(t, s, 1, "")
	has(t, d, good(1, ""))
}

// P6.1: files of other names play no part, and stay, whatever is in them.
func TestOtherNames(t *testing.T) {
	names := []string{
		"b",
		"b1",
		"b000000000000001",   // 15 digits
		"b00000000000000001", // 17
		"b10000000000000001",
		"b000000000000000A", // a great letter
		"b00000000000000aF",
		"b000000000000000g", // no digit
		"b0000000000000 12",
		"b000000000000_012",
		"b0x00000000000012",
		"b+000000000000012",
		"b-000000000000012",
		"b00000000000001\x00",
		"b00000000000001\u0661",
		"b0000000000000000", // no slot
		"a0000000000000012", // another first letter
		"c0000000000000012",
		"s0000000000000012",
		"B0000000000000012",
		"00000000000000012",
		"0000000000000012",
		"bb0000000000000012",
		" b0000000000000012",
		"b0000000000000012 ",
		"s00000012",
	}
	slices.Sort(names)
	for _, text := range []string{"", "x", whole(18, "x"), whole(1, "x"), whole(10, "x")} {
		for _, synced := range []int{0, 1, len(text)} {
			var l files
			for _, name := range names {
				l = append(l, named(name, text, min(synced, len(text))))
			}
			s, d := opened(t, l...)
			tells(t, s, 0, "")
			has(t, d, l...)
			ok(t, s.Save(18, "y"))
			reopened(t, d, 18, "y")
			has(t, d, sorted(l, good(18, "y"))...)
		}
	}
}

// sorted are lists' files, by their names.
func sorted(l files, more ...disk.File) files {
	l = slices.Concat(l, more)
	slices.SortFunc(l, func(a, b disk.File) int { return strings.Compare(a.Name, b.Name) })
	return l
}

// slots are some, with names that have digits and letters at either end.
func slots() []uint64 {
	return []uint64{1, 9, 10, 15, 16, 18, 247, 248, 0xabcdef, 1 << 32, 1 << 62, 1<<63 - 1, 1 << 63, greatest - 1, greatest}
}

// P6.1, P6.2: one good file is the base, whatever its slot is.
func TestOneGood(t *testing.T) {
	for _, slot := range slots() {
		for _, text := range []string{"", "x", "\x00\xff", strings.Repeat("long", 2000)} {
			s, d := opened(t, good(slot, text))
			tells(t, s, slot, text)
			tells(t, s, slot, text)
			has(t, d, good(slot, text))
			reopened(t, d, slot, text)
		}
	}
}

// P6.1: of several good files that of the greatest slot is the base, and the
// others are removed; those of other names stay.
func TestSeveralGood(t *testing.T) {
	all := slots()
	for i := range all {
		for j := i; j < len(all); j++ {
			l := files{named("a", "x", 1)}
			for _, slot := range all[i : j+1] {
				l = append(l, good(slot, fmt.Sprint("of ", slot)))
			}
			last := all[j]
			s, d := opened(t, append(l, named("c", "x", 0))...)
			tells(t, s, last, fmt.Sprint("of ", last))
			has(t, d, named("a", "x", 1), good(last, fmt.Sprint("of ", last)), named("c", "x", 0))
		}
	}
}

// youngs are young files of a slot: of no bytes, with a whole frame, with a
// torn one, with more than one, with bytes that are none.
func youngs(slot uint64) files {
	b := whole(slot, "some text")
	return files{young(slot, ""), young(slot, b), young(slot, b[:1]), young(slot, b[:len(b)-1]), young(slot, b+b), young(slot, "junk"), young(slot, whole(slot+1, "x"))}
}

// P6.1: a young file is removed, whatever is in it; there is no base of it.
func TestYoung(t *testing.T) {
	for _, slot := range slots() {
		for _, f := range youngs(slot) {
			s, d := opened(t, f)
			tells(t, s, 0, "")
			has(t, d)
			if d.Room() != api.MaxDisk {
				t.Error(d.Room())
			}
			reopened(t, d, 0, "")
			ok(t, s.Save(slot, "new"))
			has(t, d, good(slot, "new"))
		}
	}
}

// P6.1: young files above the base's slot, and below it, are removed.
func TestYoungBesideGood(t *testing.T) {
	for i := range youngs(1) {
		for _, l := range []files{
			{youngs(3)[i], good(20, "b")},
			{good(20, "b"), youngs(300)[i]},
			{youngs(1)[i], good(2, "a"), youngs(3)[i], youngs(19)[i], good(20, "b"), youngs(21)[i], youngs(greatest)[i]},
			{good(1, "a"), good(2, "a"), youngs(10)[i], youngs(12)[i], good(20, "b")},
		} {
			s, d := opened(t, l...)
			tells(t, s, 20, "b")
			has(t, d, good(20, "b"))
			reopened(t, d, 20, "b")
		}
	}
}

// longForms are a number in more bytes than it needs.
func longForms(n byte) []string {
	return []string{"\xf8" + string([]byte{n}), "\xf9\x00" + string([]byte{n}), "\xff" + strings.Repeat("\x00", 7) + string([]byte{n})}
}

// spoilts are the files of slot 18 that are spoilt, each in a way of its own.
func spoilts() files {
	b := whole(18, "text")
	var l files
	// Some of the bytes are synced, not all.
	for n := 1; n < len(b); n++ {
		l = append(l, named(file(18), b, n))
	}
	l = append(l, named(file(18), b+"x", len(b)), named(file(18), b+b, len(b)), named(file(18), "junk", 1))
	// All are, but there is no whole frame.
	for n := 1; n < len(b); n++ {
		l = append(l, other(18, b[:n]))
	}
	other18 := func(b ...string) {
		for _, s := range b {
			l = append(l, other(18, s))
		}
	}
	other18("\x00", "\xff", "junk", "\xf8"+b, strings.Repeat("\x00", 40), b[1:])
	// A frame, and more behind it.
	other18(b+"\x00", b+"x", b+b, b+b[:3], whole(1, "x")+b)
	// Another slot than that of the name, or none.
	other18(whole(0, "text"), whole(17, "text"), whole(19, "text"), whole(0x12<<56, "text"), whole(18<<8, "text"), whole(greatest, ""))
	// An inside that is too short, or too long.
	in := inside(18, "text")
	for n := 1; n < len(in); n++ {
		other18(framed(in[:n]))
	}
	other18(framed(in+"\x00"), framed(in+in), framed("\x12\xff"+strings.Repeat("\xff", 8)+"text"), framed("text"))
	// A number that is not of the shortest form.
	for _, slot := range longForms(18) {
		other18(framed(slot + "\x04text"))
	}
	for _, size := range longForms(4) {
		other18(framed("\x12" + size + "text"))
	}
	return l
}

// P6.1: one file that is spoilt spoils the store, in whichever way.
func TestSpoilt(t *testing.T) {
	for i, f := range spoilts() {
		halts(t, with(t, f))
		if t.Failed() {
			t.Fatalf("%d: %q, %d synced", i, f.Bytes, f.Synced)
		}
	}
}

// P6.1: so it does beside good files and young ones, above them, below them,
// and among them; nothing of them is removed then.
func TestSpoiltBesideOthers(t *testing.T) {
	for i, f := range spoilts() {
		for _, l := range []files{
			{good(1, "a")},
			{good(400, "a")},
			{young(1, "")},
			{young(400, "x")},
			{named("a", "x", 1), young(2, ""), good(3, "a"), good(4, "b"), good(20, "c"), young(21, "x"), good(22, "d"), named("c", "x", 0)},
		} {
			halts(t, with(t, sorted(l, f)...))
		}
		if t.Failed() {
			t.Fatalf("%d: %q, %d synced", i, f.Bytes, f.Synced)
		}
	}
	// Two that are spoilt are no better than one.
	halts(t, with(t, other(18, "junk"), other(19, "junk"), young(20, "")))
}

// P6.1: what a fuse, or no room, or many files are to a disk plays no part.
func TestOpenNeedsNoRoom(t *testing.T) {
	d := with(t, young(1, "x"), good(2, "a"), good(3, "b"), young(4, "x"))
	for i := len(d.Files()); i < api.MaxFiles; i++ {
		ok(t, d.Append(fmt.Sprint("n", i), ""))
	}
	ok(t, d.SetRoom(0))
	ok(t, d.Fuse(0))
	reopened(t, d, 3, "b")
	if n := len(d.Files()); n != api.MaxFiles-3 || d.Dead() {
		t.Error(n, d.Dead())
	}
	is(t, d.Append("n4", "x"), api.ErrTorn)
}

// P6.2: a base is told without power too, and whatever comes over the disk.
func TestBaseWithoutPower(t *testing.T) {
	s, d := opened(t, good(3, "three"))
	ok(t, d.Crash(0))
	tells(t, s, 3, "three")
	ok(t, d.Turn(80))
	tells(t, s, 3, "three")
	ok(t, d.Start())
	ok(t, d.Remove(file(3)))
	tells(t, s, 3, "three")
	s, d = opened(t)
	ok(t, d.Crash(0))
	tells(t, s, 0, "")
}

// R2: stores of two disks are two.
func TestTwoDisks(t *testing.T) {
	a, c := opened(t)
	b, d := opened(t)
	ok(t, a.Save(7, "a"))
	ok(t, b.Save(4, "b"))
	tells(t, a, 7, "a")
	tells(t, b, 4, "b")
	has(t, c, good(7, "a"))
	has(t, d, good(4, "b"))
}
