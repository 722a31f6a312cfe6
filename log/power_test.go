package log_test

import (
	"fmt"
	"slices"
	"testing"

	"palaver/api"
	"palaver/disk"
	"palaver/frame"
	"palaver/log"
)

// state is a log's files, and what Open must tell of them whatever comes, and
// what it may tell behind that.
type state struct {
	files  files
	synced []string
	behind []string
}

// states are logs, with nothing or something that is not synced.
func states() []state {
	full := sized(1024)
	return []state{
		{},
		{files{synced("s00000001", "")}, nil, nil},
		{files{synced("s00000001", framed("a"))}, []string{"a"}, nil},
		{files{{Name: "s00000001", Bytes: framed("a", "b")}}, nil, []string{"a", "b"}},
		{files{{Name: "s00000001", Bytes: framed("a", "b", "c"), Synced: len(framed("a"))}}, []string{"a"}, []string{"b", "c"}},
		{files{synced("s00000003", framed("x", "y")), synced("s00000004", framed("z")), {Name: "s00000005", Bytes: framed("a", "b"), Synced: len(framed("a"))}}, []string{"x", "y", "z", "a"}, []string{"b"}},
		{files{{Name: "s00000001", Bytes: framed("a", full), Synced: len(framed("a"))}}, []string{"a"}, []string{full}},
		{files{synced("s00000001", framed("x")), synced("s00000002", framed(full))}, []string{"x", full}, nil},
	}
}

// open is a log of such files, of which not all is synced: what isn't comes
// behind Open, which syncs.
func (s state) open(t *testing.T) (*log.Log, *disk.Disk) {
	t.Helper()
	if len(s.files) == 0 {
		return opened(t)
	}
	l := slices.Clone(s.files)
	last := &l[len(l)-1]
	behind := last.Bytes[last.Synced:]
	last.Bytes = last.Bytes[:last.Synced]
	g, d := opened(t, l...)
	ok(t, d.Append(last.Name, behind))
	has(t, d, s.files...)
	return g, d
}

// whole is how many of records, one behind the other, are whole in so many
// bytes.
func whole(bytes int, records []string) int {
	n := 0
	for n < len(records) && len(framed(records[:n+1]...)) <= bytes {
		n++
	}
	return n
}

// goesOn opens a disk's log twice, and holds what it tells against what it
// should; then it writes what is told by a third one.
func goesOn(t *testing.T, d *disk.Disk, records ...string) {
	t.Helper()
	l := tells(t, d, records...)
	before := d.Files()
	for _, f := range before {
		if f.Synced < len(f.Bytes) {
			t.Errorf("%s: of %d bytes %d are synced", f.Name, len(f.Bytes), f.Synced)
		}
	}
	l = tells(t, d, records...)
	has(t, d, before...)
	ok(t, l.Add("more"))
	ok(t, l.Sync())
	tells(t, d, append(slices.Clone(records), "more")...)
}

// P5.2, P5.5: the power goes at each byte of what Add writes: all that was
// there stays, and nothing is behind it.
func TestPowerWithinAdd(t *testing.T) {
	for i, s := range states() {
		for _, record := range []string{"x", "some record", sized(1100)} {
			b := framed(record)
			for fuse := range len(b) {
				l, d := s.open(t)
				ok(t, d.Fuse(fuse))
				if e := l.Add(record); e != api.ErrTorn || !d.Dead() {
					t.Fatal(i, fuse, e)
				}
				if l.Segments() != len(d.Files()) {
					t.Error(i, fuse, l.Segments())
				}
				ok(t, d.Start())
				goesOn(t, d, append(slices.Clone(s.synced), s.behind...)...)
			}
			l, d := s.open(t)
			ok(t, d.Fuse(len(b)))
			ok(t, l.Add(record))
			is(t, l.Add("more"), api.ErrTorn)
			ok(t, d.Start())
			goesOn(t, d, slices.Concat(s.synced, s.behind, []string{record})...)
		}
	}
}

// P5.5: the power goes behind Add, and takes what was not synced: all records
// that were synced are told, and of those behind them as many as are whole.
func TestPowerBehindAdd(t *testing.T) {
	for i, s := range states() {
		records := []string{"one", sized(30), "two"}
		for keep := range len(framed(s.behind...)) + len(framed(records...)) + 2 {
			l, d := s.open(t)
			for _, r := range records {
				ok(t, l.Add(r))
			}
			must, may := s.synced, slices.Concat(s.behind, records)
			// What a next segment was begun for is synced ahead of that.
			if n := len(s.files); n > 0 && len(d.Files()) > n {
				must, may = slices.Concat(s.synced, s.behind), records
			}
			ok(t, d.Crash(keep))
			is(t, l.Add("x"), api.ErrDead)
			ok(t, d.Start())
			goesOn(t, d, slices.Concat(must, may[:whole(keep, may)])...)
			if t.Failed() {
				t.Fatal(i, keep)
			}
		}
	}
}

// P5.5: what Sync made synced stays, wherever the power goes behind it.
func TestPowerBehindSync(t *testing.T) {
	for _, s := range states() {
		for keep := range 40 {
			l, d := s.open(t)
			ok(t, l.Add("one"))
			ok(t, l.Sync())
			ok(t, l.Add("two"))
			ok(t, l.Add("three"))
			ok(t, d.Crash(keep))
			ok(t, d.Start())
			behind := []string{"two", "three"}
			goesOn(t, d, slices.Concat(s.synced, s.behind, []string{"one"}, behind[:whole(keep, behind)])...)
		}
	}
}

// P5.3, P5.5: the power goes at each byte of what Renew writes: the elder
// records are told, all of them, and a beginning of Renew's behind them.
func TestPowerWithinRenew(t *testing.T) {
	for i, s := range states() {
		for _, records := range [][]string{{"x"}, {"some", "records", "more"}, {"a", sized(1100), "b"}} {
			for fuse := range len(framed(records...)) {
				l, d := s.open(t)
				ok(t, d.Fuse(fuse))
				if e := l.Renew(records); e != api.ErrTorn || !d.Dead() {
					t.Fatal(i, fuse, e)
				}
				if all := d.Files(); l.Segments() != len(all) || len(all) != len(s.files)+1 {
					t.Error(i, fuse, l.Segments(), len(all))
				}
				ok(t, d.Start())
				goesOn(t, d, slices.Concat(s.synced, s.behind, records[:whole(fuse, records)])...)
			}
		}
	}
}

// P5.3, P5.5: behind Renew its records alone are told, whatever the power
// takes, and those that were added since then behind them.
func TestPowerBehindRenew(t *testing.T) {
	for _, s := range states() {
		for _, records := range [][]string{nil, {"x"}, {"a", sized(900), "b"}} {
			for keep := range 25 {
				l, d := s.open(t)
				ok(t, d.Fuse(len(framed(records...))))
				ok(t, l.Renew(records))
				ok(t, d.Fuse(-1))
				ok(t, l.Add("one"))
				ok(t, l.Add("two"))
				ok(t, d.Crash(keep))
				ok(t, d.Start())
				behind := []string{"one", "two"}
				goesOn(t, d, slices.Concat(records, behind[:whole(keep, behind)])...)
			}
		}
	}
}

// P5.3, P5.5: the power goes while segments are removed, the first one first:
// a rest of the elder records is told, that ends where they end, and Renew's.
func TestPowerWithinRemoval(t *testing.T) {
	elder := files{synced("s00000003", framed("u", "v")), synced("s00000004", ""), synced("s00000005", framed("w")), synced("s00000006", framed("x", "y"))}
	last := synced("s00000007", framed("new", "newer"))
	for n := range len(elder) + 1 {
		d := with(t, append(slices.Clone(elder[n:]), last)...)
		var rest []string
		for _, f := range elder[n:] {
			l, _, _ := frame.Split(f.Bytes)
			rest = append(rest, l...)
		}
		goesOn(t, d, append(rest, "new", "newer")...)
		// Were any but the first ones removed, there would be a gap.
		if n > 0 && n < len(elder) {
			halts(t, with(t, append(slices.Clone(elder[:n]), last)...))
		}
	}
}

// P5.3: a segment that is not there any more ends the removal where it is; what
// was removed ahead of it is gone.
func TestRemovalEnds(t *testing.T) {
	l, d := opened(t, synced("s00000003", framed("a")), synced("s00000004", framed("b")), synced("s00000005", framed("c")))
	ok(t, d.Remove("s00000004"))
	is(t, l.Renew([]string{"x"}), api.ErrNone)
	has(t, d, synced("s00000005", framed("c")), synced("s00000006", framed("x")))
}

// part tells what a bit at a place of frames' bytes is in.
func part(frames string, at int) string {
	for from, inside := range frame.Walk(frames) {
		size := len(framed(inside))
		if at >= from && at < from+size {
			if at < from+size-len(inside)-8 {
				return "length"
			}
			return "sum or inside"
		}
	}
	return ""
}

// P5.6: a bit that turns in an inside, or a sum, of what is synced is told,
// ever since; if it turns again, all is as it was. One behind what is synced
// ends what is told.
func TestTurn(t *testing.T) {
	long := sized(300)
	all := files{
		synced("s00000002", framed("a", "bc", long)),
		synced("s00000003", framed("d")),
		{Name: "s00000004", Bytes: framed("ef", "g", "hi", "j"), Synced: len(framed("ef", "g"))},
	}
	base := []string{"a", "bc", long, "d", "ef", "g"}
	behind := []string{"hi", "j"}
	for i, f := range all {
		for at := range f.Bytes {
			ahead := 0
			for _, g := range all[:i] {
				ahead += len(g.Bytes)
			}
			for bit := 8 * (ahead + at); bit < 8*(ahead+at+1); bit++ {
				d := with(t, all...)
				ok(t, d.Crash(-1))
				ok(t, d.Turn(bit))
				ok(t, d.Start())
				switch {
				case at >= f.Synced:
					n := whole(at-f.Synced, behind)
					tells(t, d, append(slices.Clone(base), behind[:n]...)...)
					continue
				case part(f.Bytes, at) == "length":
					log.Open(d)
					continue
				}
				halts(t, d)
				ok(t, d.Crash(-1))
				ok(t, d.Start())
				halts(t, d)
				ok(t, d.Crash(-1))
				ok(t, d.Turn(bit))
				ok(t, d.Start())
				tells(t, d, append(slices.Clone(base), behind...)...)
			}
			if t.Failed() {
				t.Fatal(fmt.Sprint(f.Name, " ", at))
			}
		}
	}
}

// P5.6: also a log that was built by its own calls tells a bit that turned.
func TestTurnBuilt(t *testing.T) {
	l, d := opened(t)
	for i := range 30 {
		ok(t, l.Add(fmt.Sprint("record ", i)))
	}
	ok(t, l.Sync())
	b := d.Files()[0].Bytes
	for at := range b {
		ok(t, d.Crash(0))
		ok(t, d.Turn(8*at+at%8))
		ok(t, d.Start())
		if part(b, at) != "length" {
			halts(t, d)
		}
		ok(t, d.Crash(0))
		ok(t, d.Turn(8*at+at%8))
		ok(t, d.Start())
	}
}
