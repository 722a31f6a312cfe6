package member_test

import (
	"slices"
	"testing"

	"palaver/member"
)

// P8.2: the nodes that one of both has, that s has and o has not, that both
// have: of any two sets; no set that is told has the highest bit.
func TestTwoSets(t *testing.T) {
	for _, s := range sets() {
		for _, o := range sets() {
			in := func(n uint8) bool { return slices.Contains(nodes(s), n) }
			of := func(n uint8) bool { return slices.Contains(nodes(o), n) }
			if x := s.With(o); x != bits(such(func(n uint8) bool { return in(n) || of(n) })) {
				t.Fatalf("%d with %d: %d", s, o, x)
			}
			if x := s.Without(o); x != bits(such(func(n uint8) bool { return in(n) && !of(n) })) {
				t.Fatalf("%d without %d: %d", s, o, x)
			}
			if x := s.Both(o); x != bits(such(func(n uint8) bool { return in(n) && of(n) })) {
				t.Fatalf("%d and %d have in common: %d", s, o, x)
			}
		}
	}
}

// P8.2: of sets that are alike, of ones that share nothing, of no nodes, of
// ones whose highest bit is 1.
func TestTwoSetsEdges(t *testing.T) {
	for _, c := range []struct{ s, o, with, without, both member.Set }{
		{0, 0, 0, 0, 0},
		{0, 5, 5, 0, 0},
		{5, 0, 5, 5, 0},
		{5, 5, 5, 0, 5},
		{127, 127, 127, 0, 127},
		{5, 10, 15, 5, 0},
		{64, 1, 65, 64, 0},
		{13, 6, 15, 9, 4},
		{128, 128, 0, 0, 0},
		{128, 0, 0, 0, 0},
		{0, 128, 0, 0, 0},
		{133, 1, 5, 4, 1},
		{5, 129, 5, 4, 1},
		{133, 129, 5, 4, 1},
		{255, 255, 127, 0, 127},
		{255, 127, 127, 0, 127},
		{255, 0, 127, 127, 0},
	} {
		if x := c.s.With(c.o); x != c.with {
			t.Errorf("%d with %d: %d, want %d", c.s, c.o, x, c.with)
		}
		if x := c.s.Without(c.o); x != c.without {
			t.Errorf("%d without %d: %d, want %d", c.s, c.o, x, c.without)
		}
		if x := c.s.Both(c.o); x != c.both {
			t.Errorf("%d and %d have in common: %d, want %d", c.s, c.o, x, c.both)
		}
	}
}

// need is the least number of nodes of which twice as many are more than those
// of s.
func need(s member.Set) int {
	n := 0
	for 2*n <= len(nodes(s)) {
		n++
	}
	return n
}

// shared is how many nodes are in both.
func shared(a, b member.Set) int {
	n := 0
	for _, x := range nodes(a) {
		if slices.Contains(nodes(b), x) {
			n++
		}
	}
	return n
}

// P8.3: Need: the least number that is more than half, and 1 of none.
func TestNeed(t *testing.T) {
	for n, want := range []int{1, 1, 2, 2, 3, 3, 4, 4} {
		if got := member.First(n).Need(); got != want {
			t.Errorf("of %d nodes: %d, want %d", n, got, want)
		}
		if got := (member.First(n) | spoilt).Need(); got != want {
			t.Errorf("of %d nodes, and the highest bit: %d, want %d", n, got, want)
		}
	}
	for _, s := range sets() {
		if got := s.Need(); got != need(s) {
			t.Errorf("of %d: %d, want %d", s, got, need(s))
		}
	}
}

// P8.3: Major: whether s has nodes, and have has more than half of them: of any
// two sets.
func TestMajor(t *testing.T) {
	for _, s := range sets() {
		for _, have := range sets() {
			want := 2*shared(s, have) > len(nodes(s))
			if s.Major(have) != want {
				t.Fatalf("%d has a majority of %d: %v", have, s, !want)
			}
		}
	}
}

// P8.3: of no nodes there is no majority, whatever have has; exactly half is
// none; one more than half is one; nodes that aren't of the set do not count.
func TestMajorEdges(t *testing.T) {
	for _, c := range []struct {
		s, have member.Set
		want    bool
	}{
		{0, 0, false}, {0, 1, false}, {0, 127, false}, {0, 128, false}, {0, 255, false},
		{128, 128, false}, {128, 255, false}, {128, 127, false},
		{1, 0, false}, {1, 1, true}, {1, 2, false}, {1, 126, false},
		{3, 1, false}, {3, 2, false}, {3, 3, true},
		{7, 1, false}, {7, 3, true}, {7, 6, true}, {7, 70, true}, {7, 121, false},
		{15, 3, false}, {15, 12, false}, {15, 115, false}, {15, 7, true}, {15, 15, true},
		{63, 7, false}, {63, 71, false}, {63, 15, true},
		{127, 7, false}, {127, 112, false}, {127, 15, true}, {127, 127, true},
		// The highest bit is no node, of neither.
		{129, 128, false}, {129, 1, true}, {131, 129, false}, {131, 3, true}, {3, 129, false}, {255, 135, false}, {255, 143, true},
	} {
		if c.s.Major(c.have) != c.want {
			t.Errorf("%d has a majority of %d: %v", c.have, c.s, !c.want)
		}
	}
}

// P8.3: May: whether s has nodes, and all has all of them: of any two sets.
func TestMay(t *testing.T) {
	for _, s := range sets() {
		for _, all := range sets() {
			want := len(nodes(s)) > 0 && shared(s, all) == len(nodes(s))
			if s.May(all) != want {
				t.Fatalf("%d may be, of %d: %v", s, all, !want)
			}
		}
	}
}

// P8.3: no nodes may not be; all of them may, all but one may, and more than
// there are may not.
func TestMayEdges(t *testing.T) {
	for _, c := range []struct {
		s, all member.Set
		want   bool
	}{
		{0, 0, false}, {0, 127, false}, {0, 255, false},
		{128, 128, false}, {128, 255, false}, {128, 0, false},
		{1, 0, false}, {1, 1, true}, {2, 1, false},
		{7, 7, true}, {7, 3, false}, {3, 7, true}, {5, 7, true},
		{8, 7, false}, {15, 7, false}, {127, 127, true}, {63, 127, true}, {127, 63, false}, {127, 255, true},
		{129, 1, true}, {135, 7, true}, {255, 127, true}, {255, 128, false}, {255, 191, false},
	} {
		if c.s.May(c.all) != c.want {
			t.Errorf("%d may be, of %d: %v", c.s, c.all, !c.want)
		}
	}
}

// meet tells whether any majority of s and any of o have a node in common that
// is of s.
func meet(s, o member.Set) bool {
	for _, a := range sets() {
		for _, b := range sets() {
			if s.Major(a) && o.Major(b) && s.Both(a).Both(b).Len() == 0 {
				return false
			}
		}
	}
	return true
}

// P8.4: two that have a majority of one set have a node of it in common.
func TestMeet(t *testing.T) {
	for _, s := range told() {
		if !meet(s, s) {
			t.Errorf("%d has two majorities that share none of its nodes", s)
		}
		if also := s | spoilt; !meet(also, s) {
			t.Errorf("%d has two majorities that share none of its nodes", also)
		}
	}
}

// P8.4: so have two of two sets, one of which has one node more.
func TestMeetOneMore(t *testing.T) {
	for _, s := range told() {
		for n := range uint8(7) {
			more := s.With(member.Of(n))
			if more != s && !meet(s, more) {
				t.Errorf("majorities of %d and of %d share no node", s, more)
			}
		}
	}
}

// P8.3, P8.4: as many nodes as Need says are a majority, one less are none; and
// with two nodes more, majorities need not meet.
func TestMajorityIsLeast(t *testing.T) {
	if meet(member.Of(0), member.Of(0, 1, 2)) {
		t.Error("majorities of 0 and of 0 1 2 always meet")
	}
	for _, s := range told()[1:] {
		have := member.Of(nodes(s)[:s.Need()]...)
		if !s.Major(have) {
			t.Errorf("%d has not a majority of %d", have, s)
		}
		if less := member.Of(nodes(s)[:s.Need()-1]...); s.Major(less) {
			t.Errorf("%d has a majority of %d", less, s)
		}
	}
}
