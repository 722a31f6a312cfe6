package frame_test

import (
	"slices"
	"strings"
	"testing"

	"palaver/api"
	"palaver/frame"
)

// told is a frame as Walk tells it.
type told struct {
	at     int
	inside string
}

// walked is what Walk tells, to the end.
func walked(s string) []told {
	var l []told
	for at, inside := range frame.Walk(s) {
		l = append(l, told{at, inside})
	}
	return l
}

// row is insides' frames, one behind the other, where each of them begins, and
// where the last one ends.
func row(insides []string) (string, []int) {
	var b strings.Builder
	at := []int{0}
	for _, s := range insides {
		b.WriteString(framed(s))
		at = append(at, b.Len())
	}
	return b.String(), at
}

// rows: some frames, of lengths of one and of two bytes and more; and some that
// are alike.
func rows() [][]string {
	return [][]string{
		nil,
		{"a"},
		{"one", "two", "three"},
		{"x", "x", "x", "x"},
		{framed("a"), "a", framed(framed("a"))},
		{mixed(247), mixed(248), "\x00", mixed(256), "\xff"},
	}
}

// tells: Walk and Split both tell so many frames of the insides at the
// beginning of s, and why there are no more.
func tells(t *testing.T, name, s string, insides []string, why api.Errno) {
	t.Helper()
	var want []told
	_, at := row(insides)
	for i, inside := range insides {
		want = append(want, told{at[i], inside})
	}
	if got := walked(s); !slices.Equal(got, want) {
		t.Errorf("%s: Walk %v, not %v", name, got, want)
	}
	got, end, e := frame.Split(s)
	if !slices.Equal(got, insides) || end != at[len(insides)] || e != why {
		t.Errorf("%s: Split %q, %d, %v, not %q, %d, %v", name, got, end, e, insides, at[len(insides)], why)
	}
}

// P3.3: frames and nothing behind them: all of them, where they end, and OK.
func TestWhole(t *testing.T) {
	tells(t, "no bytes", "", nil, api.OK)
	for _, insides := range append(rows(), insides()) {
		s, _ := row(insides)
		tells(t, "a row", s, insides, api.OK)
	}
	many := make([]string, 3000)
	for i := range many {
		many[i] = mixed(1 + i%20)
	}
	s, _ := row(many)
	tells(t, "many", s, many, api.OK)
}

// P3.3: what is behind them is no frame: why, and none of what comes behind
// that, even if that is frames.
func TestBehind(t *testing.T) {
	none := []struct {
		s   string
		why api.Errno
	}{
		{"\x00", api.ErrForm},
		{"\xf8\x01", api.ErrForm},
		{"\xfa\x01\x00\x01", api.ErrForm},
		{"\x01" + sumOf("b") + "a", api.ErrSum},
		{"\x03" + sumOf("abcd") + "abc", api.ErrSum},
	}
	short := []string{"\x01", "\x01\x00\x00", "\x03" + sumOf("abc") + "ab", "\xf9\x01", "\xff\xff\xff\xff\xff\xff\xff\xff"}
	for _, insides := range rows() {
		s, _ := row(insides)
		for _, c := range none {
			for _, behind := range []string{"", framed("behind"), framed("behind") + framed("it")} {
				tells(t, "bytes behind a row", s+c.s+behind, insides, c.why)
			}
		}
		for _, c := range short {
			tells(t, "short bytes behind a row", s+c, insides, api.ErrShort)
		}
	}
}

// P3.4: cut anywhere, a row tells all frames that are whole; the one that is
// cut is ErrShort, and between two it is OK.
func TestCut(t *testing.T) {
	for _, insides := range rows() {
		s, at := row(insides)
		for n := range len(s) + 1 {
			whole, why := 0, api.ErrShort
			for whole < len(insides) && at[whole+1] <= n {
				whole++
			}
			if at[whole] == n {
				why = api.OK
			}
			tells(t, "a row that is cut", s[:n], insides[:whole], why)
		}
	}
}

// P3.4: a bit that turns in a checksum, or in an inside, is ErrSum at that
// frame, and those ahead of it are told.
func TestBitTurned(t *testing.T) {
	for _, insides := range rows() {
		s, at := row(insides)
		for i, inside := range insides {
			from := at[i] + len(lead(len(inside)))
			for n := from; n < at[i+1]; n++ {
				for bit := range 8 {
					b := []byte(s)
					b[n] ^= 1 << bit
					tells(t, "a bit turned", string(b), insides[:i], api.ErrSum)
				}
			}
		}
	}
}

// P3.4: the same in the longest inside, at its edges.
func TestBitTurnedInLong(t *testing.T) {
	insides := []string{"ahead", mixed(65536), "behind"}
	s, at := row(insides)
	sum := at[1] + len(lead(65536))
	for _, n := range []int{sum, sum + 7, sum + 8, sum + 30000, at[2] - 1} {
		for bit := range 8 {
			b := []byte(s)
			b[n] ^= 1 << bit
			tells(t, "a bit turned", string(b), insides[:1], api.ErrSum)
		}
	}
}

// P3.3: a range that is left off at any frame is told no further one.
func TestLeftOff(t *testing.T) {
	for _, insides := range rows() {
		s, at := row(insides)
		for _, behind := range []string{"", "\x05"} {
			for stop := range insides {
				n := 0
				for place, inside := range frame.Walk(s + behind) {
					if place != at[n] || inside != insides[n] {
						t.Errorf("frame %d: %d, %q", n, place, inside)
					}
					if n == stop {
						break
					}
					n++
				}
				if n != stop {
					t.Errorf("left off at %d, not %d", n, stop)
				}
			}
		}
	}
}

// P3.3: told by hand too, nothing is told behind a false; no function is told
// nothing.
func TestWalkByHand(t *testing.T) {
	s, _ := row([]string{"one", "two", "three"})
	walk := frame.Walk(s)
	for stop := 1; stop <= 3; stop++ {
		n := 0
		walk(func(int, string) bool {
			n++
			return n < stop
		})
		if n != stop {
			t.Errorf("%d told, not %d", n, stop)
		}
	}
	walk(nil)
	frame.Walk("")(nil)
	frame.Walk("\x00")(nil)
}

// P3.3 (R2): each range over one Walk begins at the beginning, within another
// one too, and whatever was told before it.
func TestWalkAgain(t *testing.T) {
	insides := []string{"one", "two", "three"}
	s, _ := row(insides)
	walk := frame.Walk(s + "\x00")
	for range walk {
		break
	}
	var pairs []string
	for _, a := range walk {
		for _, b := range walk {
			pairs = append(pairs, a+b)
		}
	}
	want := []string{"oneone", "onetwo", "onethree", "twoone", "twotwo", "twothree", "threeone", "threetwo", "threethree"}
	if !slices.Equal(pairs, want) {
		t.Errorf("%q", pairs)
	}
}

// P3.3 (R3): an answer's list is its own.
func TestSplitAnswersNewMemory(t *testing.T) {
	insides := []string{"one", "two", "three"}
	s, _ := row(insides)
	one, _, _ := frame.Split(s)
	two, _, _ := frame.Split(s)
	one = one[:cap(one)]
	for i := range one {
		one[i] = "spoilt"
	}
	if !slices.Equal(two, insides) {
		t.Errorf("%q", two)
	}
	tells(t, "again", s, insides, api.OK)
}

// P3.3: whatever the bytes are, it ends, and what is told is what the frames
// up to there are, and no more.
func TestAnyBytes(t *testing.T) {
	long := mixed(1 << 12)
	var l []string
	for i := range 256 {
		c := string([]byte{byte(i)})
		l = append(l, c, c+long, framed("ahead")+c, framed("ahead")+c+long[:300], strings.Repeat(c, 300), framed(long)+c+framed("x"))
	}
	for n := range 300 {
		l = append(l, mixed(n), framed(mixed(n+1))+mixed(n))
	}
	for _, s := range l {
		got, end, why := frame.Split(s)
		ahead, at := row(got)
		if end != at[len(got)] || !strings.HasPrefix(s, ahead) {
			t.Errorf("%q: %q, %d", s, got, end)
		}
		if (why == api.OK) != (end == len(s)) {
			t.Errorf("%q: %d of %d, %v", s, end, len(s), why)
		}
		if why != api.OK {
			fails(t, "what is behind", s[end:], why)
		}
		tells(t, "any bytes", s, got, why)
	}
}
