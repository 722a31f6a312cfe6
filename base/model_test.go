package base_test

import (
	"math/rand"
	"regexp"
	"slices"
	"strconv"
	"strings"
	"testing"

	"palaver/api"
	"palaver/base"
	"palaver/disk"
)

// words is a store as the chapter says it.
type words struct {
	d    *disk.Disk
	slot uint64
	text string
}

// bases are a disk's base files.
func bases(d *disk.Disk) files {
	form := regexp.MustCompile(`\Ab[0-9a-f]{16}\z`)
	return slices.DeleteFunc(d.Files(), func(f disk.File) bool {
		return !form.MatchString(f.Name) || f.Name == file(0)
	})
}

func slotOf(f disk.File) uint64 {
	n, _ := strconv.ParseUint(f.Name[1:], 16, 64)
	return n
}

// textOf is the text of which a file's bytes are a base's, if there is one:
// what is behind three numbers and a sum.
func textOf(f disk.File) (string, bool) {
	for n := range min(len(f.Bytes), 3*9+8) + 1 {
		if text := f.Bytes[n:]; whole(slotOf(f), text) == f.Bytes {
			return text, true
		}
	}
	return "", false
}

func (w *words) open() api.Errno {
	if w.d.Dead() {
		return api.ErrDead
	}
	var young, good []string
	slot, text := uint64(0), ""
	for _, f := range bases(w.d) {
		is, there := textOf(f)
		switch {
		case f.Synced == 0:
			young = append(young, f.Name)
		case f.Synced == len(f.Bytes) && there:
			good = append(good, f.Name)
			slot, text = slotOf(f), is
		default:
			return api.ErrHalt
		}
	}
	for _, name := range append(young, good[:max(len(good)-1, 0)]...) {
		w.d.Remove(name)
	}
	w.slot, w.text = slot, text
	return api.OK
}

func (w *words) save(slot uint64, text string) api.Errno {
	if slot == 0 || slot <= w.slot {
		return api.ErrArg
	}
	if len(inside(slot, text)) > api.MaxFrame {
		return api.ErrLong
	}
	// What is there already makes room, and is one file less.
	b, there := whole(slot, text), ""
	f, e := w.d.Read(file(slot))
	if e == api.OK {
		there = f.Bytes
	}
	if !w.d.Dead() && w.d.Room()+len(there) < len(b) {
		return api.ErrFull
	}
	w.d.Remove(file(slot))
	if e := w.d.Append(file(slot), b); e != api.OK {
		return e
	}
	w.d.Sync(file(slot))
	elder := w.slot
	w.slot, w.text = slot, text
	if elder > 0 {
		return w.d.Remove(file(elder))
	}
	return api.OK
}

// pair is a store, and the same one in words, each on its disk.
type pair struct {
	t *testing.T
	r *rand.Rand
	s *base.Store
	d *disk.Disk
	w *words
}

// both does to both disks what is none of the store's.
func (p *pair) both(do func(*disk.Disk) api.Errno) (api.Errno, api.Errno) {
	return do(p.d), do(p.w.d)
}

func (p *pair) open() (api.Errno, api.Errno) {
	s, e := base.Open(p.d)
	why := p.w.open()
	if (s == nil) != (e != api.OK) {
		p.t.Error(s, e)
	}
	if s != nil {
		p.s = s
	}
	return e, why
}

// text is one of many lengths.
func (p *pair) text() string {
	n := []int{0, 1, 5, 20, 200, 235, 236, 237, 65000, 65531, 65532, 65533}[p.r.Intn(12)]
	if n > 300 && p.r.Intn(6) > 0 {
		n = 7
	}
	return strings.Repeat(string(rune('a'+p.r.Intn(26))), n)
}

// slot is one near the base's.
func (p *pair) slot() uint64 {
	if p.r.Intn(30) == 0 {
		return uint64(p.r.Intn(3))
	}
	return p.w.slot + uint64(p.r.Intn(8)) - 2
}

// foul writes a file that the store did not.
func (p *pair) foul() (api.Errno, api.Errno) {
	slot := p.slot()
	b := []string{"", "x", whole(slot, "foul"), whole(slot, "foul")[:6], whole(slot+1, "")}[p.r.Intn(5)]
	synced := p.r.Intn(4) == 0
	return p.both(func(d *disk.Disk) api.Errno {
		e := d.Append(file(slot), b)
		if synced {
			e = d.Sync(file(slot))
		}
		return e
	})
}

// act does one thing to both.
func (p *pair) act() (string, api.Errno, api.Errno) {
	n := p.r.Intn(300)
	a, b := api.OK, api.OK
	what := "Save"
	switch k := p.r.Intn(100); {
	case k < 50:
		slot, text := p.slot(), p.text()
		a, b = p.s.Save(slot, text), p.w.save(slot, text)
	case k < 60:
		what = "Open"
		a, b = p.open()
	case k < 64:
		what = "a file"
		a, b = p.foul()
	case k < 68:
		what = "Crash"
		a, b = p.both(func(d *disk.Disk) api.Errno { return d.Crash(n - 2) })
	case k < 78:
		what = "Fuse"
		a, b = p.both(func(d *disk.Disk) api.Errno { return d.Fuse(n/4 - 2) })
	case k < 80:
		what = "SetRoom"
		a, b = p.both(func(d *disk.Disk) api.Errno { return d.SetRoom(max(n*20-1000, 0)) })
	case k < 82 && p.r.Intn(4) == 0:
		what = "Turn"
		a, b = p.both(func(d *disk.Disk) api.Errno { return d.Turn(n) })
	case k < 83 && p.r.Intn(4) == 0:
		what = "Remove"
		a, b = p.both(func(d *disk.Disk) api.Errno { return d.Remove(file(p.w.slot)) })
	default:
		what = "Start"
		p.both((*disk.Disk).Start)
		if p.r.Intn(3) > 0 {
			a, b = p.open()
		}
	}
	return what, a, b
}

// P6.1 to P6.3: whatever is done to it and to its disk, a store is as the
// chapter says it; its base's slot never falls, as long as nobody else writes
// to its files.
func TestAsInWords(t *testing.T) {
	starts := []files{
		nil, nil,
		{named("a", "x", 1), good(3, "three"), good(5, "five"), young(6, "x")},
		{good(0xfe, "near"), named("b00000000000000FF", "x", 1)},
	}
	for seed := range int64(300) {
		start := starts[seed%4]
		p := &pair{t, rand.New(rand.NewSource(seed)), nil, with(t, start...), &words{d: with(t, start...)}}
		p.open()
		for i := range 150 {
			what, a, b := p.act()
			if a != b {
				t.Fatalf("seed %d, act %d: %s: %v, not %v", seed, i, what, a, b)
			}
			if !slices.Equal(p.d.Files(), p.w.d.Files()) || p.d.Room() != p.w.d.Room() || p.d.Dead() != p.w.d.Dead() {
				t.Fatalf("seed %d, act %d: behind %s, %v, the disks differ", seed, i, what, a)
			}
			tells(t, p.s, p.w.slot, p.w.text)
			if t.Failed() {
				t.Fatalf("seed %d, act %d: %s", seed, i, what)
			}
		}
	}
}

// P6.4: the base's slot never falls, and is always of a base that was saved, as
// long as the power alone is what goes.
func TestNeverFalls(t *testing.T) {
	for seed := range int64(300) {
		r := rand.New(rand.NewSource(seed))
		d := disk.New()
		s, _ := base.Open(d)
		told, last, next := map[uint64]string{}, uint64(0), uint64(0)
		for range 60 {
			next += uint64(r.Intn(3))
			text := strings.Repeat("t", r.Intn(30))
			d.Fuse(r.Intn(60) - 10)
			e := s.Save(next, text)
			if e == api.OK {
				told[next], last = text, next
			}
			if r.Intn(3) == 0 {
				d.Crash(r.Intn(20) - 1)
			}
			d.Start()
			if r.Intn(2) == 0 {
				s = reopened(t, d, last, told[last])
			}
			tells(t, s, last, told[last])
		}
		if t.Failed() {
			t.Fatal(seed)
		}
	}
}
