package ballot_test

import (
	"math"
	"math/big"
	"math/rand"
	"slices"
	"testing"

	"palaver/api"
	"palaver/ballot"
)

const (
	greatest = math.MaxUint64
	last     = api.MaxNodes - 1
)

func of(n uint64, r uint8) api.Ballot { return api.Ballot{N: n, R: r} }

func none() api.Ballot { return api.Ballot{} }

// numbers are some, at the edges of what they are as bytes, too.
func numbers() []uint64 {
	return []uint64{0, 1, 2, 3, 247, 248, 255, 256, 300, 1<<32 - 1, 1 << 32, 1 << 62, 1<<63 - 1, 1 << 63, greatest - 1, greatest}
}

// all are ballots of these numbers, of every node, and of some that are none.
func all() []api.Ballot {
	var l []api.Ballot
	for _, n := range numbers() {
		for _, r := range []uint8{0, 1, 2, 3, 4, 5, last, last + 1, 8, 127, 128, 255} {
			l = append(l, of(n, r))
		}
	}
	return l
}

// maybe are those of all that may be, by the chapter's words.
func maybe() []api.Ballot {
	var l []api.Ballot
	for _, b := range all() {
		if b.N > 0 && b.R < 7 || b.N == 0 && b.R == 0 {
			l = append(l, b)
		}
	}
	return l
}

// place is a number that tells a ballot's place in the one order: no node has
// more than 8 bits.
func place(b api.Ballot) *big.Int {
	x := new(big.Int).SetUint64(b.N)
	return x.Lsh(x, 8).Add(x, big.NewInt(int64(b.R)))
}

// The chapter's examples.
func TestExamples(t *testing.T) {
	for _, c := range []struct {
		b    api.Ballot
		node uint8
		want api.Ballot
	}{
		{none(), 2, of(1, 2)},
		{of(3, 1), 2, of(3, 2)},
		{of(3, 1), 1, of(4, 1)},
		{of(3, 1), 0, of(4, 0)},
	} {
		if got, e := ballot.Turn(c.b, c.node); got != c.want || e != api.OK {
			t.Errorf("Turn(%v, %d): %v, %v", c.b, c.node, got, e)
		}
	}
	if e, f := ballot.Check(of(0, 1)), ballot.Check(of(1, 7)); e != api.ErrArg || f != api.ErrArg {
		t.Error("Check:", e, f)
	}
}

// P7.1: Check: none may be, and a number above 0 of one of the nodes.
func TestCheck(t *testing.T) {
	for _, c := range []struct {
		b    api.Ballot
		want api.Errno
	}{
		{none(), api.OK},
		{of(0, 1), api.ErrArg},
		{of(0, last), api.ErrArg},
		{of(0, last+1), api.ErrArg},
		{of(0, 255), api.ErrArg},
		{of(1, 0), api.OK},
		{of(1, 1), api.OK},
		{of(1, last), api.OK},
		{of(1, last+1), api.ErrArg},
		{of(1, 255), api.ErrArg},
		{of(1<<32, 3), api.OK},
		{of(greatest, 0), api.OK},
		{of(greatest, last), api.OK},
		{of(greatest, last+1), api.ErrArg},
		{of(greatest, 255), api.ErrArg},
	} {
		if e := ballot.Check(c.b); e != c.want {
			t.Errorf("%v: %v, not %v", c.b, e, c.want)
		}
	}
	good := maybe()
	for _, b := range all() {
		if e := ballot.Check(b); (e == api.OK) != slices.Contains(good, b) || e != api.OK && e != api.ErrArg {
			t.Errorf("%v: %v", b, e)
		}
	}
}

// P7.1: Below: by the numbers; of like numbers by the nodes.
func TestBelow(t *testing.T) {
	for _, c := range []struct{ a, b api.Ballot }{
		{none(), of(1, 0)},
		{none(), of(greatest, last)},
		{of(1, 0), of(1, 1)},
		{of(1, last), of(2, 0)}, // the number comes ahead of the node
		{of(2, 3), of(10, 1)},
		{of(1<<63-1, 6), of(1<<63, 0)},
		{of(greatest-1, 6), of(greatest, 0)},
		{of(greatest, 5), of(greatest, 6)},
		// Such as may not be.
		{none(), of(0, 1)},
		{of(0, 1), of(0, 2)},
		{of(0, 255), of(1, 0)},
		{of(1, 6), of(1, 7)},
		{of(1, 127), of(1, 128)},
		{of(greatest, 254), of(greatest, 255)},
	} {
		if !ballot.Below(c.a, c.b) || ballot.Below(c.b, c.a) {
			t.Errorf("%v, %v: %v, and back %v", c.a, c.b, ballot.Below(c.a, c.b), ballot.Below(c.b, c.a))
		}
	}
	for _, a := range all() {
		if ballot.Below(a, a) {
			t.Errorf("%v is below itself", a)
		}
		for _, b := range all() {
			if got, want := ballot.Below(a, b), place(a).Cmp(place(b)) < 0; got != want {
				t.Errorf("%v below %v: %v", a, b, got)
			}
		}
	}
}

// P7.1: Top: the one that is below none of them, wherever it stands.
func TestTop(t *testing.T) {
	type l = []api.Ballot
	for _, c := range []struct {
		l    l
		want api.Ballot
	}{
		{nil, none()},
		{l{}, none()},
		{l{none()}, none()},
		{l{none(), none()}, none()},
		{l{of(3, 2)}, of(3, 2)},
		{l{of(greatest, last)}, of(greatest, last)},
		{l{none(), of(1, 0)}, of(1, 0)},
		{l{of(1, 1), of(2, 0)}, of(2, 0)},
		{l{of(2, 3), of(10, 1)}, of(10, 1)},
		{l{of(2, 1), of(2, 3), of(2, 2)}, of(2, 3)},
		{l{of(2, 3), of(2, 3), of(2, 3)}, of(2, 3)},
		{l{of(2, 3), of(1, 6), of(2, 3), none()}, of(2, 3)},
		{l{of(1<<63, 0), of(1<<63-1, 6), of(1, 6)}, of(1<<63, 0)},
		{l{of(greatest-1, 6), of(greatest, 0), none()}, of(greatest, 0)},
		// Such as may not be.
		{l{of(0, 1)}, of(0, 1)},
		{l{of(0, 255), none()}, of(0, 255)},
		{l{of(0, 255), of(1, 0), of(0, 3)}, of(1, 0)},
		{l{of(1, 6), of(1, 255), of(1, 7)}, of(1, 255)},
	} {
		for range 2 {
			if got := ballot.Top(c.l...); got != c.want {
				t.Errorf("%v: %v, not %v", c.l, got, c.want)
			}
			slices.Reverse(c.l)
		}
	}
	if got := ballot.Top(); got != none() {
		t.Error("of no ballots:", got)
	}
	if got := ballot.Top(of(1, 2), of(4, 0), of(3, 6)); got != of(4, 0) {
		t.Error("of three:", got)
	}
}

// P7.1: so it is of any lists, which stay as they are (R3).
func TestTopOfMany(t *testing.T) {
	from := all()
	for seed := range int64(300) {
		rnd := rand.New(rand.NewSource(seed))
		l := make([]api.Ballot, 1+rnd.Intn(20), 32)
		for i := range l {
			l[i] = from[rnd.Intn(len(from))]
		}
		before := slices.Clone(l[:cap(l)])
		got := ballot.Top(l...)
		if !slices.Contains(l, got) {
			t.Fatalf("%v: %v", l, got)
		}
		for _, b := range l {
			if place(got).Cmp(place(b)) < 0 {
				t.Fatalf("%v: %v is below %v", l, got, b)
			}
		}
		if !slices.Equal(l[:cap(l)], before) {
			t.Fatalf("%v became %v", before, l[:cap(l)])
		}
	}
}

// P7.4: any two are alike, or one is below the other one, and not both; what is
// below one that is below a third one is below that.
func TestOneOrder(t *testing.T) {
	l := all()
	for _, a := range l {
		for _, b := range l {
			ways := 0
			for _, way := range []bool{a == b, ballot.Below(a, b), ballot.Below(b, a)} {
				if way {
					ways++
				}
			}
			if ways != 1 {
				t.Fatalf("%v and %v: %d ways", a, b, ways)
			}
			if !ballot.Below(a, b) {
				continue
			}
			for _, c := range l {
				if ballot.Below(b, c) && !ballot.Below(a, c) {
					t.Fatalf("%v, %v, %v", a, b, c)
				}
			}
		}
	}
}
