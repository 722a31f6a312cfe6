package member_test

import (
	"math"
	"math/rand"
	"slices"
	"testing"

	"palaver/api"
	"palaver/member"
)

const (
	last = api.MaxNodes - 1
	// spoilt is the bit that plays no part.
	spoilt member.Set = 128
)

// sets are all that 8 bits may be.
func sets() []member.Set {
	var l []member.Set
	for x := range 256 {
		l = append(l, member.Set(x))
	}
	return l
}

// told are those of sets that may be told: their highest bit is 0.
func told() []member.Set { return sets()[:128] }

// nodes are those of s, rising, by the chapter's words: n is one if the bit of
// the value 2^n is 1, and n is below MaxNodes.
func nodes(s member.Set) []uint8 {
	var l []uint8
	rest := int(s)
	for n := range uint8(7) {
		if rest%2 == 1 {
			l = append(l, n)
		}
		rest /= 2
	}
	return l
}

// bits is the number whose bits are those of these nodes.
func bits(l []uint8) member.Set {
	sum := 0
	for _, n := range l {
		sum += int(math.Pow(2, float64(n)))
	}
	return member.Set(sum)
}

// such answers the nodes from 0 on of which this is so.
func such(so func(n uint8) bool) []uint8 {
	var l []uint8
	for n := range uint8(7) {
		if so(n) {
			l = append(l, n)
		}
	}
	return l
}

// The chapter's examples.
func TestExamples(t *testing.T) {
	if s := member.Of(0, 2, 9); s != 5 {
		t.Errorf("Of(0, 2, 9): %d", s)
	}
	if s := member.First(3); s != 7 {
		t.Errorf("First(3): %d", s)
	}
	if n := member.Of(0, 1, 2, 3).Need(); n != 3 {
		t.Errorf("Of(0, 1, 2, 3).Need(): %d", n)
	}
	if !member.Of(0, 1, 2).Major(member.Of(1, 2, 6)) {
		t.Error("Of(0, 1, 2).Major(Of(1, 2, 6)): false")
	}
	if member.Of().Major(member.Of(0)) {
		t.Error("Of().Major(Of(0)): true")
	}
}

// P8.1: Of answers the set of these nodes; others are left out.
func TestOf(t *testing.T) {
	for _, c := range []struct {
		nodes []uint8
		want  member.Set
	}{
		{nil, 0},
		{[]uint8{}, 0},
		{[]uint8{0}, 1},
		{[]uint8{3}, 8},
		{[]uint8{3, 3}, 8},
		{[]uint8{3, 1, 3, 1}, 10},
		{[]uint8{last}, 64},
		{[]uint8{last + 1}, 0},
		{[]uint8{last, last + 1}, 64},
		{[]uint8{8}, 0},
		{[]uint8{9, 0}, 1},
		{[]uint8{16, 32, 64, 128, 0}, 1},
		{[]uint8{255}, 0},
		{[]uint8{255, 254, 2}, 4},
		{[]uint8{6, 5, 4, 3, 2, 1, 0}, 127},
		{[]uint8{0, 1, 2, 3, 4, 5, 6, 7, 8}, 127},
	} {
		if s := member.Of(c.nodes...); s != c.want {
			t.Errorf("Of(%v): %d, want %d", c.nodes, s, c.want)
		}
	}
}

// P8.1: each number of 8 bits, alone: a node's bit, or none.
func TestOfOne(t *testing.T) {
	for n := range 256 {
		want := member.Set(0)
		if n < 7 {
			want = bits([]uint8{uint8(n)})
		}
		if s := member.Of(uint8(n)); s != want {
			t.Errorf("Of(%d): %d, want %d", n, s, want)
		}
		if s := member.Of(uint8(n), 2, uint8(n)); s != member.Of(2).With(want) {
			t.Errorf("Of(%d, 2, %d): %d", n, n, s)
		}
	}
}

// P8.1: Of many nodes, in any order, some of them twice, some there may not be.
func TestOfMany(t *testing.T) {
	r := rand.New(rand.NewSource(8))
	for range 2000 {
		l := make([]uint8, r.Intn(12))
		for i := range l {
			l[i] = uint8(r.Intn(10))
			if r.Intn(8) == 0 {
				l[i] = uint8(r.Intn(256))
			}
		}
		was := slices.Clone(l)
		want := bits(such(func(n uint8) bool { return slices.Contains(l, n) }))
		if s := member.Of(l...); s != want {
			t.Fatalf("Of(%v): %d, want %d", l, s, want)
		}
		if !slices.Equal(l, was) {
			t.Fatalf("Of(%v) changed its argument to %v", was, l)
		}
	}
}

// P8.1: what is handed to Of, with the room behind its end, stays as it is, and
// what is written there later does not change the set.
func TestOfRoom(t *testing.T) {
	room := []uint8{1, 4, 2, 3}
	s := member.Of(room[:2]...)
	if !slices.Equal(room, []uint8{1, 4, 2, 3}) {
		t.Errorf("Of changed what was handed in: %v", room)
	}
	clear(room)
	if s != 18 || !slices.Equal(slices.Collect(s.All()), []uint8{1, 4}) {
		t.Errorf("Of(1, 4): %d", s)
	}
}

// P8.1: First answers the first n nodes: none below 1, all if n is more.
func TestFirst(t *testing.T) {
	for _, c := range []struct {
		n    int
		want member.Set
	}{
		{math.MinInt, 0}, {-256, 0}, {-1, 0}, {0, 0},
		{1, 1}, {2, 3}, {3, 7}, {4, 15}, {5, 31}, {6, 63}, {7, 127},
		{8, 127}, {9, 127}, {63, 127}, {64, 127}, {65, 127}, {255, 127}, {256, 127}, {257, 127}, {1 << 32, 127}, {math.MaxInt, 127},
	} {
		if s := member.First(c.n); s != c.want {
			t.Errorf("First(%d): %d, want %d", c.n, s, c.want)
		}
	}
}

// P8.1: Has: whether n is one of the nodes; the highest bit plays no part.
func TestHas(t *testing.T) {
	for _, s := range sets() {
		for n := range 256 {
			want := slices.Contains(nodes(s), uint8(n))
			if s.Has(uint8(n)) != want {
				t.Errorf("%d has %d: %v", s, n, !want)
			}
		}
	}
	if spoilt.Has(7) || member.Set(255).Has(7) || member.Set(255).Has(255) {
		t.Error("the highest bit plays a part")
	}
}

// P8.1: Len: how many nodes there are; the highest bit plays no part.
func TestLen(t *testing.T) {
	for _, s := range sets() {
		if s.Len() != len(nodes(s)) {
			t.Errorf("%d has %d nodes", s, s.Len())
		}
	}
	for _, c := range []struct {
		s    member.Set
		want int
	}{{0, 0}, {spoilt, 0}, {127, 7}, {255, 7}, {64, 1}, {192, 1}, {5, 2}} {
		if n := c.s.Len(); n != c.want {
			t.Errorf("%d has %d nodes, want %d", c.s, n, c.want)
		}
	}
}

// P8.1: All tells the nodes, rising; the highest bit plays no part.
func TestAll(t *testing.T) {
	for _, s := range sets() {
		if l := slices.Collect(s.All()); !slices.Equal(l, nodes(s)) {
			t.Errorf("all of %d: %v", s, l)
		}
	}
	for range member.Of().All() {
		t.Error("there is a node of none")
	}
	for range spoilt.All() {
		t.Error("the highest bit is told as a node")
	}
}

// P8.1: All that is left behind some node tells no further one; behind none, it
// tells that one alone; and when it is told again it begins anew.
func TestAllLeft(t *testing.T) {
	for _, s := range sets() {
		all := s.All()
		for stop := range nodes(s) {
			var l []uint8
			for n := range all {
				l = append(l, n)
				if len(l) > stop {
					break
				}
			}
			if !slices.Equal(l, nodes(s)[:stop+1]) {
				t.Errorf("of %d, left behind %d: %v", s, stop+1, l)
			}
		}
		for range 2 {
			if l := slices.Collect(all); !slices.Equal(l, nodes(s)) {
				t.Errorf("all of %d again: %v", s, l)
			}
		}
	}
}

// P8.1: All tells the nodes within themselves, too.
func TestAllWithin(t *testing.T) {
	all := member.Of(1, 4, 6).All()
	var l []uint8
	for a := range all {
		for b := range all {
			l = append(l, 10*a+b)
		}
	}
	if !slices.Equal(l, []uint8{11, 14, 16, 41, 44, 46, 61, 64, 66}) {
		t.Error(l)
	}
}

// P8.1: a function that has said no is called no more, and none at all is no
// fault (R1).
func TestAllByHand(t *testing.T) {
	for _, s := range sets() {
		calls := 0
		s.All()(func(uint8) bool {
			calls++
			return false
		})
		if want := min(1, len(nodes(s))); calls != want {
			t.Errorf("all of %d, which was left: %d calls, want %d", s, calls, want)
		}
		s.All()(nil)
	}
}

// P8.1: All tells the set as it was when it was asked.
func TestAllKeepsItsSet(t *testing.T) {
	s := member.Of(2, 5)
	all := s.All()
	s = s.With(member.Of(0))
	if l := slices.Collect(all); !slices.Equal(l, []uint8{2, 5}) || s != 37 {
		t.Errorf("%v, %d", l, s)
	}
}

// P8.1: Of all nodes of a set is that set, but for its highest bit.
func TestRound(t *testing.T) {
	for _, s := range sets() {
		if again := member.Of(slices.Collect(s.All())...); again != s%128 {
			t.Errorf("%d: %d", s, again)
		}
	}
}
