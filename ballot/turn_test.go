package ballot_test

import (
	"slices"
	"testing"

	"palaver/api"
	"palaver/ballot"
)

// turn holds a turn against what it should be.
func turn(t *testing.T, b api.Ballot, node uint8, want api.Ballot, e api.Errno) {
	t.Helper()
	if got, f := ballot.Turn(b, node); got != want || f != e {
		t.Errorf("Turn(%v, %d): %v, %v, not %v, %v", b, node, got, f, want, e)
	}
}

// P7.2: above none each node's turn has the number 1.
func TestTurnAboveNone(t *testing.T) {
	for node := range uint8(api.MaxNodes) {
		turn(t, none(), node, of(1, node), api.OK)
	}
}

// P7.2: of a node above the ballot's it has the same number, of its own and of
// those below it the next one.
func TestTurn(t *testing.T) {
	for _, b := range maybe() {
		if b == none() || b.N == greatest {
			continue
		}
		for node := range uint8(api.MaxNodes) {
			want := of(b.N, node)
			if node <= b.R {
				want.N++
			}
			turn(t, b, node, want, api.OK)
		}
	}
	turn(t, of(1, 0), 0, of(2, 0), api.OK)
	turn(t, of(1, 0), 1, of(1, 1), api.OK)
	turn(t, of(5, last), last, of(6, last), api.OK)
	turn(t, of(5, last), 0, of(6, 0), api.OK)
	turn(t, of(5, last-1), last, of(5, last), api.OK)
	turn(t, of(1<<63-1, 3), 3, of(1<<63, 3), api.OK)
	turn(t, of(greatest-1, 3), 2, of(greatest, 2), api.OK)
	turn(t, of(greatest-1, 3), 3, of(greatest, 3), api.OK)
	turn(t, of(greatest-1, 3), 4, of(greatest-1, 4), api.OK)
}

// P7.2: behind the greatest number there is none: only the nodes above the
// ballot's have a turn left.
func TestTurnAtTheGreatest(t *testing.T) {
	for r := range uint8(api.MaxNodes) {
		for node := range uint8(api.MaxNodes) {
			if node > r {
				turn(t, of(greatest, r), node, of(greatest, node), api.OK)
			} else {
				turn(t, of(greatest, r), node, none(), api.ErrFull)
			}
		}
	}
}

// P7.2: no turn above a ballot that may not be, and none of no node; that comes
// ahead of there being no number left.
func TestTurnOfWhatMayNotBe(t *testing.T) {
	good := maybe()
	for _, b := range all() {
		for _, node := range []uint8{0, 1, 5, last, last + 1, 8, 127, 128, 254, 255} {
			if !slices.Contains(good, b) || node > last {
				turn(t, b, node, none(), api.ErrArg)
			}
		}
	}
	turn(t, of(0, 1), 2, none(), api.ErrArg)
	turn(t, of(1, 7), 0, none(), api.ErrArg)
	turn(t, of(1, 1), 7, none(), api.ErrArg)
	turn(t, none(), 7, none(), api.ErrArg)
	turn(t, of(0, 3), 7, none(), api.ErrArg)
	turn(t, of(greatest, 0), 7, none(), api.ErrArg)
	turn(t, of(greatest, 7), 0, none(), api.ErrArg)
	turn(t, of(greatest, 6), 255, none(), api.ErrArg)
}

// least is the first of the ballots, which rise, of that node above b.
func least(rising []api.Ballot, b api.Ballot, node uint8) (api.Ballot, api.Errno) {
	for _, x := range rising {
		if x.R == node && place(b).Cmp(place(x)) < 0 {
			return x, api.OK
		}
	}
	return none(), api.ErrFull
}

// P7.4: no ballot of that node lies between a ballot and its turn above it: of
// all that there are, at either end, it is the first one.
func TestNoneBetween(t *testing.T) {
	low, high := []api.Ballot{none()}, []api.Ballot{}
	for i := range uint64(6) {
		for r := range uint8(7) {
			low = append(low, of(1+i, r))
			high = append(high, of(greatest-5+i, r))
		}
	}
	for _, b := range low {
		for node := range uint8(7) {
			if want, e := least(low, b, node); e == api.OK {
				turn(t, b, node, want, api.OK)
			}
		}
	}
	for _, b := range high {
		for node := range uint8(7) {
			want, e := least(high, b, node)
			turn(t, b, node, want, e)
		}
	}
}

// P7.4: over several rounds in which the nodes take turns, in whichever order,
// they rise, and no two of them are alike.
func TestTurnsRise(t *testing.T) {
	for _, nodes := range [][]uint8{
		{0, 1, 2, 3, 4, 5, 6},
		{6, 5, 4, 3, 2, 1, 0},
		{3, 3, 0, 6, 2, 6, 0, 1, 5, 4, 4},
		{2},
	} {
		for _, from := range []api.Ballot{none(), of(1, 3), of(246, 6), of(1<<63-2, 0), of(greatest-60, 4)} {
			rise(t, from, nodes)
		}
	}
}

// rise goes five rounds of turns, and looks at them all.
func rise(t *testing.T, b api.Ballot, nodes []uint8) {
	t.Helper()
	told := map[api.Ballot]bool{}
	for range 5 {
		for _, node := range nodes {
			next, e := ballot.Turn(b, node)
			if e != api.OK || next.R != node || ballot.Check(next) != api.OK {
				t.Fatalf("Turn(%v, %d): %v, %v", b, node, next, e)
			}
			if !ballot.Below(b, next) || told[next] {
				t.Fatalf("%v behind %v: told %v", next, b, told[next])
			}
			// The node's ballot of the number below lies not above b.
			if between := of(next.N-1, node); ballot.Below(b, between) && ballot.Check(between) == api.OK {
				t.Fatalf("%v lies between %v and %v", between, b, next)
			}
			told[next] = true
			b = next
		}
	}
}

// P7.4: of one ballot the turns of all nodes are seven, each its own node's.
func TestTurnsOfOneBallot(t *testing.T) {
	for _, b := range maybe() {
		if b.N == greatest {
			continue
		}
		told := map[api.Ballot]bool{}
		for node := range uint8(api.MaxNodes) {
			next, e := ballot.Turn(b, node)
			if e != api.OK || next.R != node || told[next] || !ballot.Below(b, next) {
				t.Errorf("Turn(%v, %d): %v, %v", b, node, next, e)
			}
			told[next] = true
		}
	}
}
