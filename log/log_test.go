package log_test

import (
	"fmt"
	"slices"
	"strings"
	"testing"

	"palaver/api"
	"palaver/disk"
	"palaver/frame"
	"palaver/log"
)

type files = []disk.File

// framed are the frames of records, one behind the other.
func framed(records ...string) string {
	var b []byte
	for _, r := range records {
		b, _ = frame.Put(b, r)
	}
	return string(b)
}

// sized is a record whose frame has n bytes.
func sized(n int) string {
	for over := 9; over <= 11; over++ {
		if r := strings.Repeat("r", max(n-over, 0)); len(framed(r)) == n {
			return r
		}
	}
	panic("no frame of so many bytes")
}

// synced is a file all of whose bytes are.
func synced(name, b string) disk.File {
	return disk.File{Name: name, Bytes: b, Synced: len(b)}
}

// with is a disk of these files.
func with(t *testing.T, l ...disk.File) *disk.Disk {
	t.Helper()
	d := disk.New()
	for _, f := range l {
		ok(t, d.Append(f.Name, f.Bytes[:f.Synced]))
		ok(t, d.Sync(f.Name))
		ok(t, d.Append(f.Name, f.Bytes[f.Synced:]))
	}
	return d
}

// opened is the log of a disk of these files.
func opened(t *testing.T, l ...disk.File) (*log.Log, *disk.Disk) {
	t.Helper()
	d := with(t, l...)
	g, _, e := log.Open(d)
	ok(t, e)
	return g, d
}

func ok(t *testing.T, e api.Errno) {
	t.Helper()
	is(t, e, api.OK)
}

func is(t *testing.T, e, want api.Errno) {
	t.Helper()
	if e != want {
		t.Errorf("%v, not %v", e, want)
	}
}

// has holds a disk's files against what they should be.
func has(t *testing.T, d *disk.Disk, l ...disk.File) {
	t.Helper()
	if got := d.Files(); !slices.Equal(got, l) {
		t.Errorf("Files: %.200q, not %.200q", fmt.Sprint(got), fmt.Sprint(l))
	}
}

// tells opens a disk's log, and holds its records against what they should be.
func tells(t *testing.T, d *disk.Disk, records ...string) *log.Log {
	t.Helper()
	l, got, e := log.Open(d)
	ok(t, e)
	if !slices.Equal(got, records) {
		t.Errorf("Open: %.200q, not %.200q", got, records)
	}
	return l
}

// halts opens a disk's log that is spoilt: it is told so, again and again, and
// the disk stays as it is.
func halts(t *testing.T, d *disk.Disk) {
	t.Helper()
	before, room := d.Files(), d.Room()
	for range 2 {
		if l, got, e := log.Open(d); l != nil || len(got) > 0 || e != api.ErrHalt {
			t.Errorf("Open: %v, %.200q, %v", l, got, e)
		}
		if !slices.Equal(d.Files(), before) || d.Room() != room || d.Dead() {
			t.Errorf("the disk is not as it was: %.200q", fmt.Sprint(d.Files()))
		}
	}
}

// The chapter's examples.
func TestExamples(t *testing.T) {
	l, d := opened(t)
	ok(t, l.Add("a"))
	ok(t, l.Sync())
	has(t, d, synced("s00000001", framed("a")))
	ok(t, d.Append("s00000001", framed("torn")[:7]))
	l = tells(t, d, "a")
	has(t, d, synced("s00000001", framed("a")))
	ok(t, l.Renew([]string{"b"}))
	has(t, d, synced("s00000002", framed("b")))
	tells(t, d, "b")
}

// R1, P5.1 to P5.4: of a nil disk there is no log; of a nil log there is
// nothing, whatever it is handed.
func TestNil(t *testing.T) {
	if l, got, e := log.Open(nil); l != nil || len(got) > 0 || e != api.ErrNil {
		t.Error(l, got, e)
	}
	var l *log.Log
	for _, r := range []string{"", "a", strings.Repeat("x", api.MaxFrame+1)} {
		is(t, l.Add(r), api.ErrNil)
		is(t, l.Renew([]string{r}), api.ErrNil)
	}
	is(t, l.Renew(nil), api.ErrNil)
	is(t, l.Sync(), api.ErrNil)
	if n := l.Segments(); n != 0 {
		t.Error(n)
	}
}

// P5.1: without power there is no log, also if it is spoilt, or has nothing.
func TestOpenWithoutPower(t *testing.T) {
	for _, l := range []files{nil, {synced("s00000001", framed("a"))}, {synced("s00000001", "junk")}, {synced("s00000001", ""), synced("s00000003", "")}} {
		d := with(t, l...)
		ok(t, d.Crash(-1))
		if l, got, e := log.Open(d); l != nil || len(got) > 0 || e != api.ErrDead {
			t.Error(l, got, e)
		}
		has(t, d, l...)
	}
}

// P5.2, P5.3, P5.4: without power nothing is written, synced or removed; that
// an argument may not be is told ahead of that; Segments needs none.
func TestWithoutPower(t *testing.T) {
	all := files{synced("s00000004", framed(sized(1030))), {Name: "s00000005", Bytes: framed("a", "b"), Synced: len(framed("a"))}}
	for _, last := range []string{"", sized(1024)} {
		l, d := opened(t, all[0])
		ok(t, l.Add("a"))
		ok(t, l.Sync())
		ok(t, l.Add("b"))
		want := slices.Clone(all)
		if last != "" {
			ok(t, l.Add(last))
			want[1].Bytes += framed(last)
		}
		ok(t, d.Crash(-1))
		is(t, l.Add("x"), api.ErrDead)
		is(t, l.Sync(), api.ErrDead)
		is(t, l.Renew([]string{"x"}), api.ErrDead)
		is(t, l.Renew(nil), api.ErrDead)
		is(t, l.Add(""), api.ErrLong)
		is(t, l.Renew([]string{"x", ""}), api.ErrLong)
		has(t, d, want...)
		if n := l.Segments(); n != 2 {
			t.Error(n)
		}
	}
}

// P5.1 to P5.4: a disk without segments has a log of no records, and Open makes
// none; there is nothing to sync, and the first segment is that of the number 1.
func TestNoSegments(t *testing.T) {
	l, d := opened(t)
	ok(t, l.Sync())
	has(t, d)
	ok(t, d.Crash(0))
	is(t, l.Add("a"), api.ErrDead)
	is(t, l.Renew(nil), api.ErrDead)
	ok(t, l.Sync())
	ok(t, d.Start())
	has(t, d)
	if n := l.Segments(); n != 0 {
		t.Error(n)
	}
	l = tells(t, d)
	ok(t, l.Add("a"))
	has(t, d, disk.File{Name: "s00000001", Bytes: framed("a")})
	if n := l.Segments(); n != 1 {
		t.Error(n)
	}
}

// P5.1, P5.3: files of other names play no part, whatever they have.
func TestOtherNames(t *testing.T) {
	names := []string{
		"s0000001", "s000000001", "s00000000", "s0000000a", "s0000000A", "s0000 001", "s 0000001", "s0000001 ", "s+0000001", "s-0000001",
		"s0000_001", "s0x00001", "s1e000001", "s0000001.", "s", "00000001", "000000001", "S00000001", "t00000001", "r00000001", "b00000001",
		"xs00000001", "s00000001x", "s00000001\x00", "ss00000001", "s1", "s0000000\u0661", "s000000\u0661", "b0000000000000001",
	}
	for _, segments := range []files{nil, {synced("s00000001", framed("a")), synced("s00000002", framed("b"))}} {
		d := with(t, segments...)
		for i, name := range names {
			ok(t, d.Append(name, "junk"))
			if i%2 == 0 {
				ok(t, d.Sync(name))
			}
			ok(t, d.Append(name, framed("whole")))
		}
		others := slices.DeleteFunc(d.Files(), func(f disk.File) bool { return slices.Contains(segments, f) })
		var l *log.Log
		if segments == nil {
			l = tells(t, d)
		} else {
			l = tells(t, d, "a", "b")
		}
		if l.Segments() != len(segments) {
			t.Error(l.Segments())
		}
		ok(t, l.Renew([]string{"c"}))
		ok(t, l.Add("d"))
		ok(t, l.Sync())
		tells(t, d, "c", "d")
		last := synced(fmt.Sprintf("s%08d", len(segments)+1), framed("c", "d"))
		want := append(others, last)
		slices.SortFunc(want, func(a, b disk.File) int { return strings.Compare(a.Name, b.Name) })
		has(t, d, want...)
	}
}

// P5.1: all records are told, one segment behind the other, in the order of
// their numbers, which need not begin with 1; what follows is written behind
// the last one.
func TestOpen(t *testing.T) {
	for _, first := range []int{1, 2, 9, 10, 99, 100, 12345678, 99999997} {
		name := func(i int) string { return fmt.Sprintf("s%08d", first+i) }
		l := files{synced(name(0), framed("x", "a")), synced(name(1), ""), synced(name(2), framed("b"))}
		d := with(t, l[2], l[0], l[1])
		g := tells(t, d, "x", "a", "b")
		has(t, d, l...)
		if g.Segments() != 3 {
			t.Error(g.Segments())
		}
		ok(t, g.Add("c"))
		has(t, d, l[0], l[1], disk.File{Name: name(2), Bytes: framed("b", "c"), Synced: len(framed("b"))})
	}
}

// P5.1: numbers with a gap are spoilt, wherever it is.
func TestGap(t *testing.T) {
	for _, numbers := range [][]int{{1, 3}, {2, 4}, {1, 2, 4}, {1, 3, 4}, {1, 10}, {1, 99999999}, {99999997, 99999999}, {1, 2, 3, 5, 6}} {
		d := disk.New()
		for _, n := range numbers {
			name := fmt.Sprintf("s%08d", n)
			ok(t, d.Append(name, framed("a")))
			ok(t, d.Sync(name))
		}
		halts(t, d)
	}
}

// torn are bytes that are no frames wholly.
func torn() []string {
	a := framed("abc")
	return []string{a[:1], a[:8], a[:9], a[:len(a)-1], "\x00", "\xff" + a, "\xf8\x03" + a[1:], a[:len(a)-1] + "d", a[:3] + "!" + a[4:], framed("x") + a[:5], a + "\x00" + a}
}

// P5.1: a segment ahead of the last one that is not frames wholly, or not
// wholly synced, is spoilt, be it the first one or another.
func TestSpoiltAhead(t *testing.T) {
	whole := framed("abc", "d")
	bad := []disk.File{{Bytes: whole}, {Bytes: whole, Synced: len(framed("abc"))}, {Bytes: whole, Synced: len(whole) - 1}}
	for _, b := range torn() {
		bad = append(bad, disk.File{Bytes: b, Synced: len(b)}, disk.File{Bytes: b})
	}
	for _, f := range bad {
		f.Name = "s00000001"
		halts(t, with(t, f, synced("s00000002", whole)))
		halts(t, with(t, f, synced("s00000002", "")))
		halts(t, with(t, f, synced("s00000002", whole), disk.File{Name: "s00000003", Bytes: "torn"}))
		f.Name = "s00000002"
		halts(t, with(t, synced("s00000001", whole), f, synced("s00000003", whole)))
	}
}

// P5.1: if what is synced of the last segment is no frames wholly, it is
// spoilt, also if the frame that was begun ends in what is not synced.
func TestSpoiltLast(t *testing.T) {
	for _, b := range torn() {
		halts(t, with(t, synced("s00000001", b)))
		halts(t, with(t, synced("s00000001", framed("x")), synced("s00000002", b)))
		halts(t, with(t, disk.File{Name: "s00000001", Bytes: b + framed("y"), Synced: len(b)}))
	}
	whole := framed("abc", "d")
	for n := range whole {
		d := with(t, disk.File{Name: "s00000001", Bytes: whole, Synced: n})
		if n == 0 || n == len(framed("abc")) {
			tells(t, d, "abc", "d")
			continue
		}
		halts(t, d)
	}
}

// P5.1: what is behind the last whole frame of the last segment is cut off, and
// gives its room back; whole frames that were not synced are told; then all of
// them are synced.
func TestTorn(t *testing.T) {
	for _, records := range [][]string{nil, {"abc"}, {"abc", "d"}, {"abc", "d", "ef"}} {
		for n := range len(records) + 1 {
			for _, rest := range append(torn(), "") {
				// What begins with whole frames has these told.
				behind, _, _ := frame.Split(rest)
				all := slices.Concat(records, behind)
				elder := synced("s00000007", framed("elder"))
				d := with(t, elder, disk.File{Name: "s00000008", Bytes: framed(records...) + rest, Synced: len(framed(records[:n]...))})
				for range 2 {
					tells(t, d, append([]string{"elder"}, all...)...)
					has(t, d, elder, synced("s00000008", framed(all...)))
				}
				if room := api.MaxDisk - len(framed("elder")) - len(framed(all...)); d.Room() != room {
					t.Error(d.Room(), room)
				}
			}
		}
	}
}

// P5.2: a record is written behind the others, as a frame, and not synced.
func TestAdd(t *testing.T) {
	l, d := opened(t)
	var records []string
	for _, r := range []string{"one", "\x00", "", "\xff\xfe", "one", strings.Repeat("x", 300)} {
		if r == "" {
			is(t, l.Add(r), api.ErrLong)
			continue
		}
		ok(t, l.Add(r))
		records = append(records, r)
		has(t, d, disk.File{Name: "s00000001", Bytes: framed(records...)})
	}
	tells(t, d, records...)
}

// P5.2: a record has 1 to MaxFrame bytes.
func TestLong(t *testing.T) {
	for _, n := range []int{0, api.MaxFrame + 1, 2 * api.MaxFrame} {
		l, d := opened(t)
		is(t, l.Add(strings.Repeat("x", n)), api.ErrLong)
		has(t, d)
		ok(t, l.Add("a"))
		is(t, l.Add(strings.Repeat("x", n)), api.ErrLong)
		has(t, d, disk.File{Name: "s00000001", Bytes: framed("a")})
	}
	for _, n := range []int{1, api.MaxFrame - 1, api.MaxFrame} {
		l, d := opened(t)
		long := strings.Repeat("x", n)
		ok(t, l.Add("a"))
		ok(t, l.Add(long))
		has(t, d, disk.File{Name: "s00000001", Bytes: framed("a", long)})
		tells(t, d, "a", long)
	}
}

// P5.2: only of MaxSegment bytes or more the last segment is synced, and the
// record in the next one.
func TestNextSegment(t *testing.T) {
	for size := 1010; size <= 1030; size++ {
		for _, at := range []int{0, 500, size} {
			b := framed(sized(size))
			if at == 500 {
				b = framed(sized(500), sized(size-500))
			}
			d := with(t, disk.File{Name: "s00000009", Bytes: b[:at], Synced: at})
			l, _, e := log.Open(d)
			ok(t, e)
			// Behind Open, so that it is not synced.
			ok(t, d.Append("s00000009", b[at:]))
			ok(t, l.Add("a"))
			if size >= 1024 {
				has(t, d, synced("s00000009", b), disk.File{Name: "s00000010", Bytes: framed("a")})
				ok(t, l.Add("b"))
				has(t, d, synced("s00000009", b), disk.File{Name: "s00000010", Bytes: framed("a", "b")})
				continue
			}
			b += framed("a")
			has(t, d, disk.File{Name: "s00000009", Bytes: b, Synced: at})
			ok(t, l.Add("b"))
			if len(b) < 1024 {
				has(t, d, disk.File{Name: "s00000009", Bytes: b + framed("b"), Synced: at})
				continue
			}
			has(t, d, synced("s00000009", b), disk.File{Name: "s00000010", Bytes: framed("b")})
		}
	}
}

// P5.2, P5.4: many records are in many segments, of which each but the last one
// has MaxSegment bytes or more, and is synced.
func TestManySegments(t *testing.T) {
	l, d := opened(t)
	var records []string
	for i := range 400 {
		r := strings.Repeat(fmt.Sprint(i), 1+i%40)
		ok(t, l.Add(r))
		records = append(records, r)
	}
	all := d.Files()
	if len(all) < 10 || l.Segments() != len(all) {
		t.Error(len(all), l.Segments())
	}
	for i, f := range all {
		last := i == len(all)-1
		if f.Name != fmt.Sprintf("s%08d", i+1) || !last && (len(f.Bytes) < 1024 || f.Synced < len(f.Bytes)) || last && f.Synced > 0 {
			t.Error(f.Name, len(f.Bytes), f.Synced)
		}
	}
	tells(t, d, records...)
}

// P5.2: Sync makes all of the last segment synced, also one of no bytes.
func TestSync(t *testing.T) {
	l, d := opened(t)
	ok(t, l.Add("a"))
	ok(t, l.Add("b"))
	for range 2 {
		ok(t, l.Sync())
		has(t, d, synced("s00000001", framed("a", "b")))
	}
	ok(t, l.Add("c"))
	has(t, d, disk.File{Name: "s00000001", Bytes: framed("a", "b", "c"), Synced: len(framed("a", "b"))})
	ok(t, l.Renew(nil))
	ok(t, l.Sync())
	has(t, d, synced("s00000002", ""))
}

// P5.2, P5.3: of 8 digits 99999999 is the greatest number; behind it there is
// no segment, which is told behind ErrLong and ahead of the disk's errors, and
// nothing is changed.
func TestGreatestNumber(t *testing.T) {
	l, d := opened(t, synced("s99999998", framed(sized(1024))))
	ok(t, l.Add(sized(1023)))
	has(t, d, synced("s99999998", framed(sized(1024))), disk.File{Name: "s99999999", Bytes: framed(sized(1023))})
	is(t, l.Renew([]string{"x"}), api.ErrFull)
	is(t, l.Renew(nil), api.ErrFull)
	is(t, l.Renew([]string{""}), api.ErrLong)
	ok(t, l.Add("a"))
	b := framed(sized(1023), "a")
	for range 2 {
		is(t, l.Add("x"), api.ErrFull)
		is(t, l.Add(""), api.ErrLong)
		is(t, l.Renew([]string{"x"}), api.ErrFull)
		has(t, d, synced("s99999998", framed(sized(1024))), disk.File{Name: "s99999999", Bytes: b})
	}
	ok(t, d.Crash(-1))
	is(t, l.Add("x"), api.ErrFull)
	is(t, l.Renew([]string{"x"}), api.ErrFull)
	is(t, l.Sync(), api.ErrDead)
	ok(t, d.Start())
	tells(t, d, sized(1024), sized(1023), "a")
	// What the power took makes room for more.
	l, d = opened(t, synced("s99999999", framed("a")))
	ok(t, l.Add(sized(1024)))
	is(t, l.Add("b"), api.ErrFull)
	ok(t, d.Crash(0))
	is(t, l.Add("b"), api.ErrDead)
	ok(t, d.Start())
	l = tells(t, d, "a")
	ok(t, l.Add("b"))
	has(t, d, disk.File{Name: "s99999999", Bytes: framed("a", "b"), Synced: len(framed("a"))})
}

// P5.2, P5.3: with less room than the frames need nothing is written.
func TestFullDisk(t *testing.T) {
	for _, had := range [][]string{nil, {"elder"}, {"elder", "other"}} {
		for room := range 30 {
			l, d := opened(t)
			for _, r := range had {
				ok(t, l.Add(r))
			}
			ok(t, l.Sync())
			before := d.Files()
			ok(t, d.SetRoom(room))
			if e := l.Renew([]string{"abc", "d"}); room < len(framed("abc", "d")) {
				is(t, e, api.ErrFull)
				has(t, d, before...)
			} else {
				ok(t, e)
				has(t, d, synced(fmt.Sprintf("s%08d", len(before)+1), framed("abc", "d")))
				continue
			}
			if e := l.Add("abc"); room < len(framed("abc")) {
				is(t, e, api.ErrFull)
				has(t, d, before...)
				tells(t, d, had...)
			} else {
				ok(t, e)
				tells(t, d, append(slices.Clone(had), "abc")...)
			}
		}
	}
}

// P5.2, P5.3: where there are MaxFiles files, there is no further segment.
func TestFullOfFiles(t *testing.T) {
	d := disk.New()
	for i := range 999 {
		is(t, d.Append(fmt.Sprint("f", i), ""), api.OK)
	}
	l := tells(t, d)
	ok(t, d.Append("f999", ""))
	before := d.Files()
	is(t, l.Add("a"), api.ErrFull)
	is(t, l.Renew(nil), api.ErrFull)
	is(t, l.Renew([]string{"a"}), api.ErrFull)
	is(t, l.Add(""), api.ErrLong)
	ok(t, l.Sync())
	has(t, d, before...)
	if l.Segments() != 0 {
		t.Error(l.Segments())
	}
	ok(t, d.Remove("f999"))
	ok(t, l.Add(sized(1023)))
	ok(t, l.Add("a"))
	for range 2 {
		is(t, l.Add("b"), api.ErrFull)
		is(t, l.Renew(nil), api.ErrFull)
	}
	if l.Segments() != 1 {
		t.Error(l.Segments())
	}
	l = tells(t, d, sized(1023), "a")
	ok(t, d.Remove("f0"))
	ok(t, l.Add("b"))
	if l.Segments() != 2 {
		t.Error(l.Segments())
	}
	tells(t, d, sized(1023), "a", "b")
}

// P5.3, P5.4: Renew's records, all of them, are the next segment, synced, and
// the only one.
func TestRenew(t *testing.T) {
	long := strings.Repeat("x", api.MaxFrame)
	for _, records := range [][]string{nil, {}, {"a"}, {"a", "b", "a"}, {sized(1024), "a"}, {long, "\x00", long}} {
		for _, size := range []int{0, 20, 1023, 1024, 5000} {
			l, d := opened(t, synced("s00000003", framed("elder")), synced("s00000004", framed(sized(1500))), synced("s00000005", ""))
			if size > 0 {
				ok(t, l.Add(sized(size)))
			}
			ok(t, l.Renew(records))
			has(t, d, synced("s00000006", framed(records...)))
			if l.Segments() != 1 || d.Room() != api.MaxDisk-len(framed(records...)) {
				t.Error(l.Segments(), d.Room())
			}
			ok(t, l.Renew([]string{"y"}))
			has(t, d, synced("s00000007", framed("y")))
			ok(t, l.Add("z"))
			tells(t, d, "y", "z")
			has(t, d, synced("s00000007", framed("y", "z")))
		}
	}
}

// P5.3: Renew of a log without segments makes its first one, also of no
// records.
func TestRenewNoSegments(t *testing.T) {
	for _, records := range [][]string{nil, {"a"}, {"a", sized(2000), "b"}} {
		l, d := opened(t)
		ok(t, l.Renew(records))
		has(t, d, synced("s00000001", framed(records...)))
		if l.Segments() != 1 {
			t.Error(l.Segments())
		}
		l = tells(t, d, records...)
		ok(t, l.Renew(nil))
		has(t, d, synced("s00000002", ""))
		tells(t, d)
	}
}

// P5.3: one record of no bytes, or of too many, and nothing is changed,
// wherever it stands.
func TestRenewLong(t *testing.T) {
	for _, bad := range []string{"", strings.Repeat("x", api.MaxFrame+1)} {
		for _, records := range [][]string{{bad}, {bad, "a"}, {"a", bad}, {"a", bad, "b"}} {
			for _, had := range [][]string{nil, {"elder"}} {
				l, d := opened(t)
				for _, r := range had {
					ok(t, l.Add(r))
				}
				before := d.Files()
				is(t, l.Renew(records), api.ErrLong)
				has(t, d, before...)
				if l.Segments() != len(had) {
					t.Error(l.Segments())
				}
				tells(t, d, had...)
			}
		}
	}
}

// R3: what is handed in is left as it was, and not kept; what is handed out is
// new memory, spare room too.
func TestLists(t *testing.T) {
	l, d := opened(t)
	room := []string{"a", "b", "spare"}
	ok(t, l.Renew(room[:2]))
	if !slices.Equal(room, []string{"a", "b", "spare"}) {
		t.Error(room)
	}
	room[0] = "other"
	ok(t, l.Add("c"))
	_, one, _ := log.Open(d)
	_, two, _ := log.Open(d)
	one = one[:cap(one)]
	for i := range one {
		one[i] = "changed"
	}
	if !slices.Equal(two, []string{"a", "b", "c"}) {
		t.Error(two)
	}
	tells(t, d, "a", "b", "c")
}

// The chapter's way: a log embeds its disk, whose methods are promoted.
func TestEmbeds(t *testing.T) {
	l, d := opened(t)
	ok(t, l.Add("a"))
	if l.Disk != d || l.Room() != d.Room() || !slices.Equal(l.Files(), d.Files()) {
		t.Error("it is another disk")
	}
}
