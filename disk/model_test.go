package disk_test

import (
	"math"
	"math/rand"
	"slices"
	"strings"
	"testing"

	"palaver/api"
	"palaver/disk"
)

// cell is a byte, and whether it is synced.
type cell struct {
	b      byte
	synced bool
}

// paper is a disk as the chapter says it, byte by byte.
type paper struct {
	names []string
	cells [][]cell
	room  int
	fused bool
	fuse  int
	dead  bool
}

func newPaper() *paper { return &paper{room: api.MaxDisk} }

func (p *paper) place(name string) int { return slices.Index(p.names, name) }

func (p *paper) drop(i int) {
	last := len(p.cells[i]) - 1
	p.cells[i] = p.cells[i][:last]
	p.room++
}

func (p *paper) off() { p.dead, p.fused = true, false }

func (p *paper) Append(name, s string) api.Errno {
	i := p.place(name)
	switch {
	case p.dead:
		return api.ErrDead
	case len(name) < 1 || len(name) > 24:
		return api.ErrArg
	case p.room < len(s), i < 0 && len(p.names) == 1000:
		return api.ErrFull
	}
	if i < 0 {
		i = 0
		for i < len(p.names) && p.names[i] < name {
			i++
		}
		p.names = slices.Insert(p.names, i, name)
		p.cells = slices.Insert(p.cells, i, nil)
	}
	for at := range len(s) {
		if p.fused && p.fuse == 0 {
			p.off()
			return api.ErrTorn
		}
		p.cells[i] = append(p.cells[i], cell{b: s[at]})
		p.room--
		p.fuse--
	}
	return api.OK
}

func (p *paper) missing(name string) api.Errno {
	switch {
	case p.dead:
		return api.ErrDead
	case p.place(name) < 0:
		return api.ErrNone
	}
	return api.OK
}

func (p *paper) Sync(name string) api.Errno {
	if e := p.missing(name); e != api.OK {
		return e
	}
	l := p.cells[p.place(name)]
	for k := range l {
		l[k].synced = true
	}
	return api.OK
}

func (p *paper) Cut(name string, n int) api.Errno {
	if e := p.missing(name); e != api.OK {
		return e
	}
	i := p.place(name)
	if n < 0 || n > len(p.cells[i]) || n < len(p.cells[i]) && p.cells[i][n].synced {
		return api.ErrArg
	}
	for len(p.cells[i]) > n {
		p.drop(i)
	}
	return api.OK
}

func (p *paper) Remove(name string) api.Errno {
	if e := p.missing(name); e != api.OK {
		return e
	}
	i := p.place(name)
	for len(p.cells[i]) > 0 {
		p.drop(i)
	}
	p.names = slices.Delete(p.names, i, i+1)
	p.cells = slices.Delete(p.cells, i, i+1)
	return api.OK
}

func (p *paper) file(i int) disk.File {
	f := disk.File{Name: p.names[i]}
	for _, c := range p.cells[i] {
		f.Bytes += string([]byte{c.b})
		if c.synced {
			f.Synced++
		}
	}
	return f
}

func (p *paper) Read(name string) (disk.File, api.Errno) {
	if e := p.missing(name); e != api.OK {
		return disk.File{}, e
	}
	return p.file(p.place(name)), api.OK
}

func (p *paper) Files() []disk.File {
	var l []disk.File
	for i := range p.names {
		l = append(l, p.file(i))
	}
	return l
}

func (p *paper) SetRoom(n int) api.Errno {
	if n < 0 || n > 1<<22 {
		return api.ErrArg
	}
	p.room = n
	return api.OK
}

func (p *paper) Fuse(n int) api.Errno {
	if p.dead {
		return api.ErrDead
	}
	p.fused, p.fuse = n >= 0, n
	return api.OK
}

func (p *paper) Crash(keep int) api.Errno {
	if p.dead {
		return api.ErrDead
	}
	for i := range p.cells {
		var stay []cell
		for _, c := range p.cells[i] {
			switch {
			case c.synced:
				stay = append(stay, c)
			case keep != 0:
				stay = append(stay, c)
				if keep > 0 {
					keep--
				}
			default:
				p.room++
			}
		}
		p.cells[i] = stay
	}
	p.off()
	return api.OK
}

func (p *paper) Turn(bit int) api.Errno {
	if !p.dead {
		return api.ErrArg
	}
	at := 0
	for i := range p.cells {
		for k := range p.cells[i] {
			for _, mask := range []byte{1, 2, 4, 8, 16, 32, 64, 128} {
				if at == bit {
					p.cells[i][k].b ^= mask
					return api.OK
				}
				at++
			}
		}
	}
	return api.ErrArg
}

func (p *paper) Start() api.Errno {
	p.dead = false
	return api.OK
}

// acts is what a disk and a paper both do.
type acts interface {
	Append(name, s string) api.Errno
	Sync(name string) api.Errno
	Cut(name string, n int) api.Errno
	Remove(name string) api.Errno
	SetRoom(n int) api.Errno
	Fuse(n int) api.Errno
	Crash(keep int) api.Errno
	Turn(bit int) api.Errno
	Start() api.Errno
}

// act is one of the acts, picked by the numbers of r alone.
func act(r *rand.Rand, names []string) (string, func(acts) api.Errno) {
	name := names[r.Intn(len(names))]
	n := r.Intn(14) - 2
	if r.Intn(40) == 0 {
		n = []int{math.MinInt, math.MaxInt, api.MaxDisk, api.MaxDisk + 1}[r.Intn(4)]
	}
	s := strings.Repeat("abcdefgh", 2)[r.Intn(8):]
	s = s[:r.Intn(min(9, len(s)))]
	switch k := r.Intn(32); {
	case k < 12:
		return "Append", func(d acts) api.Errno { return d.Append(name, s) }
	case k < 15:
		return "Sync", func(d acts) api.Errno { return d.Sync(name) }
	case k < 18:
		return "Cut", func(d acts) api.Errno { return d.Cut(name, n) }
	case k < 20:
		return "Remove", func(d acts) api.Errno { return d.Remove(name) }
	case k < 21:
		return "SetRoom", func(d acts) api.Errno { return d.SetRoom(n * 2) }
	case k < 23:
		return "Fuse", func(d acts) api.Errno { return d.Fuse(n) }
	case k < 25:
		return "Crash", func(d acts) api.Errno { return d.Crash(n) }
	case k < 27:
		return "Turn", func(d acts) api.Errno { return d.Turn(n * 5) }
	}
	return "Start", func(d acts) api.Errno { return d.Start() }
}

// differ tells what of a disk is not as on paper.
func differ(d *disk.Disk, p *paper, names []string) string {
	switch {
	case !slices.Equal(d.Files(), p.Files()):
		return "Files"
	case d.Room() != p.room:
		return "Room"
	case d.Dead() != p.dead:
		return "Dead"
	}
	for _, name := range names {
		f, e := d.Read(name)
		g, why := p.Read(name)
		if f != g || e != why {
			return "Read " + name
		}
	}
	return ""
}

// P4.1 to P4.4: whatever is done to it, a disk is as the chapter says it, byte
// by byte.
func TestAsOnPaper(t *testing.T) {
	names := []string{"a", "ab", "b", "Z", "\xff", "", strings.Repeat("n", 24), strings.Repeat("n", 25)}
	for seed := range int64(300) {
		r := rand.New(rand.NewSource(seed))
		d, p := disk.New(), newPaper()
		for i := range 200 {
			what, do := act(r, names)
			got, want := do(d), do(p)
			if got != want {
				t.Fatalf("seed %d, act %d: %s: %v, not %v", seed, i, what, got, want)
			}
			if w := differ(d, p, names); w != "" {
				t.Fatalf("seed %d, act %d: behind %s, %v: %s", seed, i, what, got, w)
			}
		}
	}
}
