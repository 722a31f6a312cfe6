package base_test

import (
	"fmt"
	"strings"
	"testing"

	"palaver/api"
)

// P6.3: what is saved is the base, and the elder one's file is gone.
func TestSave(t *testing.T) {
	s, d := opened(t, named("a", "x", 1), named("c", "x", 0))
	for i, slot := range slots() {
		text := []string{"", "x", "\x00\xff", strings.Repeat("long", 2000)}[i%4]
		ok(t, s.Save(slot, text))
		tells(t, s, slot, text)
		has(t, d, named("a", "x", 1), good(slot, text), named("c", "x", 0))
		s = reopened(t, d, slot, text)
	}
}

// P6.3: all slots' files are written as their names say, without a gap.
func TestSaveInARow(t *testing.T) {
	s, d := opened(t)
	for slot := uint64(1); slot < 600; slot++ {
		text := strings.Repeat("t", int(slot%7)*50)
		ok(t, s.Save(slot, text))
		tells(t, s, slot, text)
		has(t, d, good(slot, text))
	}
}

// P6.3: slot 0, that of the base, and all below it are refused, and nothing is
// changed; the next one is not, nor the greatest one.
func TestSaveSlots(t *testing.T) {
	s, d := opened(t)
	is(t, s.Save(0, "x"), api.ErrArg)
	tells(t, s, 0, "")
	has(t, d)
	for _, slot := range []uint64{1, 4, 250, 1 << 40, 1 << 63, greatest} {
		ok(t, s.Save(slot, "text"))
		for _, less := range []uint64{0, 1, slot / 2, slot - 1, slot} {
			if less <= slot {
				is(t, s.Save(less, "x"), api.ErrArg)
				is(t, s.Save(less, ""), api.ErrArg)
			}
		}
		tells(t, s, slot, "text")
		has(t, d, good(slot, "text"))
	}
	// So it is of a base that was opened.
	s = reopened(t, with(t, good(4, "four")), 4, "four")
	is(t, s.Save(4, "x"), api.ErrArg)
	is(t, s.Save(3, "x"), api.ErrArg)
	ok(t, s.Save(5, "x"))
}

// P6.3: the longest text that a frame takes with its slot, and one byte more.
func TestSaveLong(t *testing.T) {
	for _, slot := range slots() {
		n := api.MaxFrame
		for len(inside(slot, strings.Repeat("x", n))) > api.MaxFrame {
			n--
		}
		s, d := opened(t)
		for _, more := range []int{1, 2, 100, api.MaxFrame} {
			is(t, s.Save(slot, strings.Repeat("x", n+more)), api.ErrLong)
			tells(t, s, 0, "")
			has(t, d)
		}
		text := strings.Repeat("x", n)
		ok(t, s.Save(slot, text))
		tells(t, s, slot, text)
		reopened(t, d, slot, text)
		if b := d.Files()[0].Bytes; len(b) != 4+8+api.MaxFrame {
			t.Error(slot, len(b))
		}
	}
}

// P6.3 (R5): of several errors the chapter's first one; nothing is changed.
func TestSaveErrorsInOrder(t *testing.T) {
	long := strings.Repeat("x", api.MaxFrame+1)
	s, d := opened(t, good(4, "four"))
	ok(t, d.SetRoom(0))
	is(t, s.Save(4, long), api.ErrArg)
	is(t, s.Save(4, "x"), api.ErrArg)
	is(t, s.Save(5, long), api.ErrLong)
	is(t, s.Save(5, "x"), api.ErrFull)
	ok(t, d.Crash(0))
	is(t, s.Save(0, long), api.ErrArg)
	is(t, s.Save(3, "x"), api.ErrArg)
	is(t, s.Save(5, long), api.ErrLong)
	is(t, s.Save(5, "x"), api.ErrDead)
	tells(t, s, 4, "four")
	has(t, d, good(4, "four"))
}

// P6.3: without power nothing is saved; with power it is, again.
func TestSaveWithoutPower(t *testing.T) {
	for _, l := range []files{nil, {good(4, "four")}} {
		s, d := opened(t, l...)
		ok(t, d.Crash(0))
		is(t, s.Save(8, "eight"), api.ErrDead)
		is(t, s.Save(9, ""), api.ErrDead)
		has(t, d, l...)
		ok(t, d.Start())
		ok(t, s.Save(8, "eight"))
		has(t, d, good(8, "eight"))
	}
}

// P6.3: a disk without room for all of the file is left as it is, and so is the
// base. Room that only the elder one's going would give is none.
func TestSaveFull(t *testing.T) {
	size := len(whole(8, "eight"))
	for _, l := range []files{nil, {good(4, strings.Repeat("four", 100))}} {
		for room := range size {
			s, d := opened(t, l...)
			n, text, _ := s.Base()
			ok(t, d.SetRoom(room))
			is(t, s.Save(8, "eight"), api.ErrFull)
			tells(t, s, n, text)
			has(t, d, l...)
			if d.Room() != room {
				t.Error(d.Room(), room)
			}
			reopened(t, d, n, text)
		}
		s, d := opened(t, l...)
		ok(t, d.SetRoom(size))
		ok(t, s.Save(8, "eight"))
		has(t, d, good(8, "eight"))
	}
}

// P6.3: of MaxFiles files there is none more; one less, and there is.
func TestSaveManyFiles(t *testing.T) {
	for _, l := range []files{nil, {good(4, "four")}} {
		s, d := opened(t, l...)
		n, text, _ := s.Base()
		for i := len(l); i < api.MaxFiles; i++ {
			ok(t, d.Append(fmt.Sprint("n", i), ""))
		}
		before := d.Files()
		is(t, s.Save(8, "eight"), api.ErrFull)
		tells(t, s, n, text)
		has(t, d, before...)
		ok(t, d.Remove("n500"))
		ok(t, s.Save(8, "eight"))
		tells(t, s, 8, "eight")
		if got := len(d.Files()); got != api.MaxFiles-len(l) {
			t.Error(got)
		}
		// The file of the slot that is there already is no other one.
		ok(t, d.Remove("n501"))
		ok(t, d.Append(file(9), "junk"))
		for i := len(d.Files()); i < api.MaxFiles; i++ {
			ok(t, d.Append(fmt.Sprint("m", i), ""))
		}
		ok(t, s.Save(9, "nine"))
		reopened(t, d, 9, "nine")
	}
}

// P6.3, P6.4: a young file of the name that Save writes, left there since the
// power went, is not the file's beginning.
func TestSaveOverYoung(t *testing.T) {
	for _, l := range []files{nil, {good(4, "four")}} {
		for _, f := range youngs(8) {
			s, d := opened(t, l...)
			ok(t, d.Append(f.Name, f.Bytes))
			ok(t, s.Save(8, "eight"))
			tells(t, s, 8, "eight")
			has(t, d, good(8, "eight"))
			if d.Room() != api.MaxDisk-len(whole(8, "eight")) {
				t.Error(d.Room())
			}
			reopened(t, d, 8, "eight")
		}
	}
}

// P6.3: what such a file has is room for what is written in its place; if there
// is not enough even so, it stays (R4), and so does the base.
func TestSaveOverYoungFull(t *testing.T) {
	size := len(whole(8, "eight"))
	for _, f := range youngs(8) {
		for room := range size + 1 {
			s, d := opened(t, good(4, "four"))
			ok(t, d.Append(f.Name, f.Bytes))
			ok(t, d.SetRoom(room))
			if room+len(f.Bytes) >= size {
				ok(t, s.Save(8, "eight"))
				has(t, d, good(8, "eight"))
				continue
			}
			is(t, s.Save(8, "eight"), api.ErrFull)
			has(t, d, good(4, "four"), f)
			tells(t, s, 4, "four")
			if d.Room() != room {
				t.Error(d.Room(), room)
			}
		}
	}
}

// P6.3: young files of other slots stay where they are, till Open.
func TestSaveBesideYoung(t *testing.T) {
	s, d := opened(t, good(4, "four"))
	ok(t, d.Append(file(3), "x"))
	ok(t, d.Append(file(9), "x"))
	ok(t, s.Save(8, "eight"))
	has(t, d, young(3, "x"), good(8, "eight"), young(9, "x"))
	reopened(t, d, 8, "eight")
	has(t, d, good(8, "eight"))
}

// P6.3: if the elder one's file is not there any more, that error is told; but
// the new one is synced, so it is the base.
func TestSaveWithoutElder(t *testing.T) {
	s, d := opened(t, good(4, "four"))
	ok(t, d.Remove(file(4)))
	is(t, s.Save(8, "eight"), api.ErrNone)
	tells(t, s, 8, "eight")
	has(t, d, good(8, "eight"))
	is(t, s.Save(8, "x"), api.ErrArg)
	ok(t, s.Save(9, "nine"))
	has(t, d, good(9, "nine"))
}

// P6.3: also a file of the elder base that was written over is removed.
func TestSaveElderWrittenOver(t *testing.T) {
	s, d := opened(t, good(4, "four"))
	ok(t, d.Append(file(4), "more"))
	ok(t, s.Save(8, "eight"))
	has(t, d, good(8, "eight"))
}

// P6.3: a disk that ends with an error leaves the elder base, and its file.
func TestSaveTorn(t *testing.T) {
	s, d := opened(t, good(4, "four"))
	ok(t, d.Fuse(6))
	is(t, s.Save(8, "eight"), api.ErrTorn)
	tells(t, s, 4, "four")
	has(t, d, good(4, "four"), young(8, whole(8, "eight")[:6]))
	is(t, s.Save(8, "eight"), api.ErrDead)
	is(t, s.Save(4, "x"), api.ErrArg)
	is(t, s.Save(5, ""), api.ErrDead)
	tells(t, s, 4, "four")
}

// R3: a base's text is its own.
func TestSaveKeepsNothing(t *testing.T) {
	s, d := opened(t)
	text := []byte("text")
	ok(t, s.Save(1, string(text)))
	text[0] = 'x'
	tells(t, s, 1, "text")
	l := d.Files()
	l[0].Bytes, l[0].Synced = "x", 0
	has(t, d, good(1, "text"))
}
