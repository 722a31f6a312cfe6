package log_test

import (
	"math/rand"
	"regexp"
	"slices"
	"strconv"
	"strings"
	"testing"

	"palaver/api"
	"palaver/disk"
	"palaver/frame"
	"palaver/log"
)

// words is a log as the chapter says it: what files there are says all.
type words struct{ d *disk.Disk }

func (w words) segments() files {
	form := regexp.MustCompile(`\As[0-9]{8}\z`)
	return slices.DeleteFunc(w.d.Files(), func(f disk.File) bool {
		return !form.MatchString(f.Name) || f.Name == "s00000000"
	})
}

func count(f disk.File) int {
	n, _ := strconv.Atoi(f.Name[1:])
	return n
}

// wholly tells the frames of a text, and whether nothing is behind them.
func wholly(s string) ([]string, int, bool) {
	var l []string
	at := 0
	for at < len(s) {
		inside, n, e := frame.Take(s[at:])
		if e != api.OK {
			return l, at, false
		}
		l = append(l, inside)
		at += n
	}
	return l, at, true
}

func (w words) Open() ([]string, api.Errno) {
	if w.d.Dead() {
		return nil, api.ErrDead
	}
	all := w.segments()
	var records []string
	for i, f := range all {
		l, end, is := wholly(f.Bytes)
		last := i == len(all)-1
		_, _, most := wholly(f.Bytes[:f.Synced])
		if i > 0 && count(f) != count(all[i-1])+1 || !last && (!is || f.Synced < len(f.Bytes)) || !most {
			return nil, api.ErrHalt
		}
		records = append(records, l...)
		if last {
			defer w.d.Sync(f.Name)
			defer w.d.Cut(f.Name, end)
		}
	}
	return records, api.OK
}

func (w words) Sync() api.Errno {
	if all := w.segments(); len(all) > 0 {
		return w.d.Sync(all[len(all)-1].Name)
	}
	return api.OK
}

func (w words) bad(records []string) bool {
	return slices.ContainsFunc(records, func(r string) bool { return len(r) < 1 || len(r) > 65536 })
}

// next is the name of the next segment, or nothing.
func (w words) next() string {
	n := 1
	if all := w.segments(); len(all) > 0 {
		n = count(all[len(all)-1]) + 1
	}
	if s := strconv.Itoa(n); len(s) <= 8 {
		return "s" + strings.Repeat("0", 8-len(s)) + s
	}
	return ""
}

func (w words) Add(r string) api.Errno {
	if w.bad([]string{r}) {
		return api.ErrLong
	}
	all, name := w.segments(), w.next()
	if len(all) > 0 && len(all[len(all)-1].Bytes) < 1024 {
		name = all[len(all)-1].Name
	} else if name == "" {
		return api.ErrFull
	} else if e := w.Sync(); e != api.OK {
		return e
	}
	return w.d.Append(name, framed(r))
}

func (w words) Renew(records []string) api.Errno {
	if w.bad(records) {
		return api.ErrLong
	}
	elder, name := w.segments(), w.next()
	if name == "" {
		return api.ErrFull
	}
	if e := w.Sync(); e != api.OK {
		return e
	}
	if e := w.d.Append(name, framed(records...)); e != api.OK {
		return e
	}
	w.d.Sync(name)
	for _, f := range elder {
		w.d.Remove(f.Name)
	}
	return api.OK
}

// record is one of many lengths.
func record(r *rand.Rand) string {
	n := []int{0, 1, 5, 20, 200, 900, 1013, 1014, 1015, 3000, 65536, 65537}[r.Intn(12)]
	if n > 5000 && r.Intn(8) > 0 {
		n = 30
	}
	return strings.Repeat(string(rune('a'+r.Intn(26))), n)
}

// pair is a log, and the same one in words, each on its disk.
type pair struct {
	t *testing.T
	r *rand.Rand
	l *log.Log
	d *disk.Disk
	w words
}

// both does to both disks what is none of the log's.
func (p *pair) both(do func(*disk.Disk) api.Errno) (api.Errno, api.Errno) {
	return do(p.d), do(p.w.d)
}

func (p *pair) open() (api.Errno, api.Errno) {
	l, got, e := log.Open(p.d)
	want, why := p.w.Open()
	if !slices.Equal(got, want) || (l == nil) != (e != api.OK) {
		p.t.Errorf("Open: %.300q, not %.300q", got, want)
	}
	if l != nil {
		p.l = l
	}
	return e, why
}

// act does one thing to both.
func (p *pair) act() (string, api.Errno, api.Errno) {
	n := p.r.Intn(400)
	a, b := api.OK, api.OK
	what := "Add"
	switch k := p.r.Intn(100); {
	case k < 50:
		s := record(p.r)
		a, b = p.l.Add(s), p.w.Add(s)
	case k < 60:
		what, a, b = "Sync", p.l.Sync(), p.w.Sync()
	case k < 66:
		var l []string
		for range p.r.Intn(4) {
			l = append(l, record(p.r))
		}
		what, a, b = "Renew", p.l.Renew(l), p.w.Renew(l)
	case k < 74:
		what = "Open"
		a, b = p.open()
	case k < 78:
		what = "Crash"
		a, b = p.both(func(d *disk.Disk) api.Errno { return d.Crash(n - 2) })
	case k < 82:
		what = "Fuse"
		a, b = p.both(func(d *disk.Disk) api.Errno { return d.Fuse(n - 2) })
	case k < 84:
		what = "SetRoom"
		a, b = p.both(func(d *disk.Disk) api.Errno { return d.SetRoom(max(n*20-1000, 0)) })
	case k < 85 && p.r.Intn(4) == 0:
		what = "Turn"
		a, b = p.both(func(d *disk.Disk) api.Errno { return d.Turn(n * 3) })
	default:
		what = "Start"
		p.both((*disk.Disk).Start)
		if p.r.Intn(3) > 0 {
			a, b = p.open()
		}
	}
	return what, a, b
}

// P5.1 to P5.4: whatever is done to it and to its disk, a log is as the chapter
// says it.
func TestAsInWords(t *testing.T) {
	starts := []files{
		nil, nil,
		{synced("s00000001", framed("a")), {Name: "s0000002", Bytes: "x"}},
		{synced("s99999996", framed("a")), synced("s99999997", framed("b"))},
	}
	for seed := range int64(200) {
		start := starts[seed%4]
		p := &pair{t, rand.New(rand.NewSource(seed)), nil, with(t, start...), words{with(t, start...)}}
		p.open()
		for i := range 150 {
			what, a, b := p.act()
			if a != b {
				t.Fatalf("seed %d, act %d: %s: %v, not %v", seed, i, what, a, b)
			}
			if !slices.Equal(p.d.Files(), p.w.d.Files()) || p.d.Room() != p.w.d.Room() || p.d.Dead() != p.w.d.Dead() {
				t.Fatalf("seed %d, act %d: behind %s, %v, the disks differ", seed, i, what, a)
			}
			if n := len(p.w.segments()); p.l.Segments() != n {
				t.Fatalf("seed %d, act %d: behind %s, %v: %d segments, not %d", seed, i, what, a, p.l.Segments(), n)
			}
			if t.Failed() {
				t.Fatalf("seed %d, act %d: %s", seed, i, what)
			}
		}
	}
}
