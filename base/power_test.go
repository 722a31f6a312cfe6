package base_test

import (
	"strings"
	"testing"

	"palaver/api"
	"palaver/base"
	"palaver/disk"
)

// states are the files of stores without a base, and with one.
func states() []files {
	return []files{
		nil,
		{good(4, "four")},
		{good(4, "")},
		{good(4, strings.Repeat("four", 60))},
	}
}

// goesOn opens a disk twice, holds the base against what it should be, and
// saves what it should behind that.
func goesOn(t *testing.T, d *disk.Disk, slot uint64, text string, save func(*base.Store)) {
	t.Helper()
	s := reopened(t, d, slot, text)
	l := files{}
	if slot > 0 {
		l = files{good(slot, text)}
	}
	has(t, d, l...)
	s = reopened(t, d, slot, text)
	has(t, d, l...)
	save(s)
}

// P6.4: the power goes at each byte of Save: Open tells the elder base, twice,
// and what is saved behind that is the base.
func TestPowerWithinSave(t *testing.T) {
	for _, l := range states() {
		for _, text := range []string{"", "eight", strings.Repeat("eight", 50)} {
			b := whole(8, text)
			for fuse := range len(b) {
				s, d := opened(t, l...)
				slot, elder, _ := s.Base()
				ok(t, d.Fuse(fuse))
				is(t, s.Save(8, text), api.ErrTorn)
				tells(t, s, slot, elder)
				has(t, d, append(l[:len(l):len(l)], young(8, b[:fuse]))...)
				ok(t, d.Start())
				goesOn(t, d, slot, elder, func(s *base.Store) {
					ok(t, s.Save(8, text))
					has(t, d, good(8, text))
					goesOn(t, d, 8, text, func(s *base.Store) { ok(t, s.Save(9, "")) })
				})
			}
			if t.Failed() {
				t.FailNow()
			}
		}
	}
}

// P6.4: the power goes behind the last byte of Save: the new base stays.
func TestPowerBehindSave(t *testing.T) {
	for _, l := range states() {
		for _, text := range []string{"", "eight", strings.Repeat("eight", 50)} {
			for keep := -1; keep < 20; keep++ {
				s, d := opened(t, l...)
				ok(t, d.Fuse(len(whole(8, text))))
				ok(t, s.Save(8, text))
				if keep%2 == 0 {
					is(t, s.Save(9, "x"), api.ErrTorn)
				} else {
					ok(t, d.Crash(keep))
				}
				ok(t, d.Start())
				goesOn(t, d, 8, text, func(s *base.Store) {
					is(t, s.Save(8, text), api.ErrArg)
					ok(t, s.Save(9, "nine"))
				})
			}
		}
	}
}

// P6.4: a store that is not opened again behind an end of the power saves the
// same slot, or others, and again the power may go at each byte.
func TestPowerWithinSaveAgain(t *testing.T) {
	for _, l := range states() {
		b := whole(8, "eight")
		for first := range len(b) {
			for second := range len(b) + 1 {
				s, d := opened(t, l...)
				slot, elder, _ := s.Base()
				ok(t, d.Fuse(first))
				is(t, s.Save(8, "eight"), api.ErrTorn)
				ok(t, d.Start())
				ok(t, d.Fuse(second))
				if second < len(b) {
					is(t, s.Save(8, "EIGHT"), api.ErrTorn)
					ok(t, d.Start())
				} else {
					ok(t, s.Save(8, "EIGHT"))
					ok(t, d.Fuse(-1))
					slot, elder = 8, "EIGHT"
				}
				tells(t, s, slot, elder)
				ok(t, s.Save(10, "ten"))
				tells(t, s, 10, "ten")
				goesOn(t, d, 10, "ten", func(s *base.Store) { ok(t, s.Save(11, "")) })
			}
		}
		if t.Failed() {
			t.FailNow()
		}
	}
}

// P6.4: what is there between the steps of Save: both files, both of them
// synced, tell the new base.
func TestPowerAheadOfRemoval(t *testing.T) {
	d := with(t, good(4, "four"), good(8, "eight"))
	goesOn(t, d, 8, "eight", func(s *base.Store) { is(t, s.Save(7, "x"), api.ErrArg) })
	// Written wholly, but not synced, it is not the base.
	d = with(t, good(4, "four"), young(8, whole(8, "eight")))
	goesOn(t, d, 4, "four", func(s *base.Store) { ok(t, s.Save(7, "x")) })
}

// P6.1, P5: a bit that turns in an inside, or a sum, halts, as long as it is
// turned.
func TestTurn(t *testing.T) {
	for _, text := range []string{"", "eight", strings.Repeat("eight", 60)} {
		b := whole(300, text)
		lead := len(b) - len(inside(300, text)) - 8
		for bit := range 8 * len(b) {
			s, d := opened(t, good(4, "four"))
			ok(t, s.Save(300, text))
			ok(t, d.Crash(0))
			ok(t, d.Turn(bit))
			ok(t, d.Start())
			tells(t, s, 300, text)
			if bit >= 8*lead {
				halts(t, d)
			} else if s, e := base.Open(d); s != nil || e != api.ErrHalt {
				// A length is no part of what the sum is of; but another one
				// is the beginning of another inside.
				t.Error(bit, e)
			}
			ok(t, d.Crash(0))
			ok(t, d.Turn(bit))
			ok(t, d.Start())
			goesOn(t, d, 300, text, func(s *base.Store) { ok(t, s.Save(301, "")) })
		}
	}
}

// P6.1: a bit that turns in what is young plays no part.
func TestTurnYoung(t *testing.T) {
	b := whole(8, "eight")
	for bit := range 8 * len(b) {
		d := with(t, good(4, "four"), young(8, b))
		ok(t, d.Crash(-1))
		ok(t, d.Turn(8*len(whole(4, "four"))+bit))
		ok(t, d.Start())
		goesOn(t, d, 4, "four", func(s *base.Store) { ok(t, s.Save(8, "eight")) })
	}
}
