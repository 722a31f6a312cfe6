package crc_test

import (
	"hash/crc64"
	"math"
	"math/bits"
	"strings"
	"testing"

	"palaver/crc"
)

// slowSum goes bit by bit as the chapter says it, in no other way.
func slowSum(s string) uint64 {
	x := uint64(math.MaxUint64)
	for _, c := range []byte(s) {
		x ^= uint64(c)
		x = slowSteps(x, 8)
	}
	return ^x
}

func slowSteps(x uint64, n int) uint64 {
	for range n {
		fell := x % 2
		x /= 2
		if fell == 1 {
			x ^= 0xc96c5795d7870f42
		}
	}
	return x
}

// mixed is n bytes, of all kinds.
func mixed(n int) string {
	b := make([]byte, n)
	x := uint64(n)
	for i := range b {
		x = x*6364136223846793005 + 1442695040888963407
		b[i] = byte(x >> 56)
	}
	return string(b)
}

// texts are the edges, one of each length up to 69, and some longer ones.
func texts() []string {
	l := []string{"\x00", "\x01", "\x80", "\xff", "a", "123456789", "\x00\x00", "\x00a", "a\x00", "\xc3\xa4", strings.Repeat("\x00", 9), strings.Repeat("\xff", 9)}
	for n := range 70 {
		l = append(l, mixed(n))
	}
	return append(l, mixed(255), mixed(256), mixed(1000), mixed(1<<16))
}

// sums are numbers of 64 bits: each of them is some text's checksum.
func sums() []uint64 {
	l := []uint64{0, 1, 2, 7, 255, 256, 1 << 32, 1 << 62, 1 << 63, math.MaxUint64, math.MaxUint64 - 1, 0xc96c5795d7870f42, 0x92d8af2baf0e1e84}
	for _, s := range []string{"a", "b", "1234", "123456789"} {
		l = append(l, crc.Sum(s))
	}
	return l
}

// P2.1: the chapter's examples, and single bytes.
func TestSumExamples(t *testing.T) {
	for _, c := range []struct {
		s    string
		want uint64
	}{
		{"", 0},
		{"123456789", 0x995dc9bbdf1939fa},
		{"\x00", 0x1fada17364673f59},
		{"\xff", 0xff00000000000000},
		{"a", 0x330284772e652b05},
		{"\xff\xff\xff\xff\xff\xff\xff\xff", 0xffffffffffffffff},
		{"The quick brown fox jumps over the lazy dog", 0x5b5eb8c2e54aa1c4},
	} {
		if got := crc.Sum(c.s); got != c.want {
			t.Errorf("Sum(%q): %x, not %x", c.s, got, c.want)
		}
	}
}

// P2.1: Sum is what the words say, and what others make of the same words.
func TestSum(t *testing.T) {
	table := crc64.MakeTable(crc64.ECMA)
	for _, s := range texts() {
		got := crc.Sum(s)
		if want := slowSum(s); got != want {
			t.Errorf("a text of %d: %x, not %x", len(s), got, want)
		}
		if want := crc64.Checksum([]byte(s), table); got != want {
			t.Errorf("a text of %d: %x, not the library's %x", len(s), got, want)
		}
	}
	for c := range 256 {
		s := string([]byte{byte(c)})
		if got, want := crc.Sum(s), slowSum(s); got != want {
			t.Errorf("the byte %x: %x, not %x", c, got, want)
		}
	}
}

// P2.1: More: a text in two parts, cut anywhere, none at either side too.
func TestMoreInParts(t *testing.T) {
	for _, s := range texts() {
		want := crc.Sum(s)
		for at := 0; at <= len(s); at += 1 + len(s)/100 {
			if got := crc.More(crc.Sum(s[:at]), s[at:]); got != want {
				t.Errorf("a text of %d, cut at %d: %x, not %x", len(s), at, got, want)
			}
		}
	}
}

// P2.1: More: a text byte by byte, and in parts of other lengths.
func TestMoreInManyParts(t *testing.T) {
	s := mixed(1000)
	for _, n := range []int{1, 2, 3, 7, 8, 9, 64, 999, 1000, 1001} {
		sum := uint64(0)
		for at := 0; at < len(s); at += n {
			sum = crc.More(sum, s[at:min(at+n, len(s))])
			sum = crc.More(sum, "")
		}
		if want := crc.Sum(s); sum != want {
			t.Errorf("parts of %d: %x, not %x", n, sum, want)
		}
	}
}

// P2.1: More: any number may be a checksum; no byte behind it leaves it.
func TestMoreOfAnySum(t *testing.T) {
	table := crc64.MakeTable(crc64.ECMA)
	for _, sum := range sums() {
		if got := crc.More(sum, ""); got != sum {
			t.Errorf("nothing behind %x: %x", sum, got)
		}
		for _, s := range texts() {
			if got, want := crc.More(sum, s), crc64.Update(sum, table, []byte(s)); got != want {
				t.Errorf("a text of %d behind %x: %x, not %x", len(s), sum, got, want)
			}
		}
	}
	for _, s := range texts() {
		if crc.More(0, s) != crc.Sum(s) {
			t.Errorf("a text of %d behind nothing", len(s))
		}
	}
}

// P2.2: Join is 8 times n steps, and b over what comes of them.
func TestJoinSteps(t *testing.T) {
	for _, a := range sums() {
		x := a
		for n := range 140 {
			for _, b := range sums() {
				if got := crc.Join(a, b, n); got != x^b {
					t.Errorf("Join(%x, %x, %d): %x, not %x", a, b, n, got, x^b)
				}
			}
			x = slowSteps(x, 8)
		}
	}
	for _, n := range []int{255, 256, 257, 1000, 1<<16 - 1, 1 << 16, 1<<16 + 1} {
		if got, want := crc.Join(7, 5, n), slowSteps(7, 8*n)^5; got != want {
			t.Errorf("Join(7, 5, %d): %x, not %x", n, got, want)
		}
	}
}

// P2.2: no steps: n of 0, and below it.
func TestJoinOfNone(t *testing.T) {
	for _, n := range []int{0, -1, -2, -3, -8, -1 << 32, math.MinInt + 1, math.MinInt} {
		for _, a := range sums() {
			for _, b := range sums() {
				if got := crc.Join(a, b, n); got != a^b {
					t.Errorf("Join(%x, %x, %d): %x, not %x", a, b, n, got, a^b)
				}
			}
		}
	}
}

// product is that of two polynomials, less what the checksum's polynomial goes
// into them; a number's highest bit is 1, the one below it x, and so on.
func product(a, b uint64) uint64 {
	p := uint64(0)
	for i := range 64 {
		if a>>(63-i)&1 == 1 {
			p ^= b
		}
		b = slowSteps(b, 1)
	}
	return p
}

// power is x to the power of 8 times n: a step multiplies by x.
func power(n int) uint64 {
	p, square := uint64(1)<<63, uint64(1)<<(63-8)
	for ; n > 0; n /= 2 {
		if n%2 == 1 {
			p = product(p, square)
		}
		square = product(square, square)
	}
	return p
}

// greatCounts are far above any text's length, up to the greatest int.
func greatCounts() []int {
	l := []int{math.MaxInt, math.MaxInt - 1, math.MaxInt / 2, math.MaxInt/8 + 1, math.MaxInt / 3, 1<<31 - 1, 0x0123456789abcdef}
	for i := 17; i < bits.UintSize-1; i++ {
		l = append(l, 1<<i-1, 1<<i, 1<<i+1)
	}
	return l
}

// P2.2: n far greater than what may be stepped one by one: it ends soon, and
// tells what polynomials do.
func TestJoinOfGreatCounts(t *testing.T) {
	for _, n := range greatCounts() {
		x := power(n)
		for _, a := range sums() {
			if got, want := crc.Join(a, 5, n), product(a, x)^5; got != want {
				t.Errorf("Join(%x, 5, %d): %x, not %x", a, n, got, want)
			}
		}
	}
}

// P2.2: so many steps and so many more are as many as both.
func TestJoinTwice(t *testing.T) {
	for _, n := range append(greatCounts(), 0, 1, 2, 9, 100) {
		for _, more := range []int{0, 1, 5, 1 << 20, math.MaxInt - n} {
			if more > math.MaxInt-n {
				continue
			}
			got, want := crc.Join(crc.Join(77, 0, n), 5, more), crc.Join(77, 5, n+more)
			if got != want {
				t.Errorf("%d, then %d: %x, not %x", n, more, got, want)
			}
		}
	}
}

// P2.1, P2.2 (R2): the same again, whatever was asked meanwhile.
func TestNothingIsLeft(t *testing.T) {
	sum, join := crc.Sum("one"), crc.Join(1, 2, 1000)
	for i, s := range texts() {
		crc.More(uint64(i), s)
		crc.Join(uint64(i), 1, math.MaxInt-i)
		if crc.Sum("one") != sum || crc.Join(1, 2, 1000) != join {
			t.Fatal("another answer behind other calls")
		}
	}
}

// P2.3: Join of two texts' checksums is that of both together.
func TestJoinIsTogether(t *testing.T) {
	if crc.Join(crc.Sum("1234"), crc.Sum("56789"), 5) != 0x995dc9bbdf1939fa {
		t.Error("1234 and 56789")
	}
	for _, s := range texts() {
		for _, behind := range texts() {
			if len(s)+len(behind) > 2000 {
				continue
			}
			if got, want := crc.Join(crc.Sum(s), crc.Sum(behind), len(behind)), crc.Sum(s+behind); got != want {
				t.Errorf("texts of %d and %d: %x, not %x", len(s), len(behind), got, want)
			}
		}
	}
	long := mixed(1 << 20)
	if crc.Join(crc.Sum("ahead"), crc.Sum(long), len(long)) != crc.Sum("ahead"+long) {
		t.Error("a long text")
	}
}

// P2.3: of many texts, joined from either end.
func TestJoinOfMany(t *testing.T) {
	all, sum := "", uint64(0)
	back, backSum := "", uint64(0)
	for n := range 40 {
		s := mixed(n)
		all, sum = all+s, crc.Join(sum, crc.Sum(s), n)
		backSum = crc.Join(crc.Sum(s), backSum, len(back))
		back = s + back
	}
	if sum != crc.Sum(all) || backSum != crc.Sum(back) {
		t.Errorf("%x, %x", sum, backSum)
	}
}

// turned is s with its bits other from the bit at on, where bits has a 1: bit
// 0 is a byte's lowest one, which falls off first.
func turned(s string, at int, ones uint64) string {
	b := []byte(s)
	for i := range 64 {
		if ones>>i&1 == 1 {
			b[(at+i)/8] ^= 1 << ((at + i) % 8)
		}
	}
	return string(b)
}

// P2.3: one bit changed, any one, is another checksum; and each its own.
func TestBitChanged(t *testing.T) {
	for _, s := range []string{"\x00", "a", strings.Repeat("\x00", 30), mixed(300)} {
		from := map[uint64]int{crc.Sum(s): -1}
		for at := range 8 * len(s) {
			sum := crc.Sum(turned(s, at, 1))
			if was, ok := from[sum]; ok {
				t.Errorf("a text of %d: bit %d, as %d", len(s), at, was)
			}
			from[sum] = at
		}
	}
}

// bursts are what may change within so many bits side by side, of which the
// first one and the last one do.
func bursts(wide int) []uint64 {
	ends := uint64(1) | 1<<(wide-1)
	within := uint64(math.MaxUint64) >> (64 - wide)
	l := []uint64{ends, within}
	x := uint64(wide)
	for range 20 {
		x = x*6364136223846793005 + 1442695040888963407
		l = append(l, bits.Reverse64(x)&within|ends)
	}
	return append(l, 0xc96c5795d7870f42&within|ends)
}

// P2.3: up to 64 bits side by side, at any place.
func TestBitsChanged(t *testing.T) {
	for _, s := range []string{strings.Repeat("\x00", 24), strings.Repeat("\xff", 24), mixed(24)} {
		sum := crc.Sum(s)
		for wide := 1; wide <= 64; wide++ {
			for _, ones := range bursts(wide) {
				for at := range 8*len(s) - wide + 1 {
					if crc.Sum(turned(s, at, ones)) == sum {
						t.Errorf("the bits %x at %d change nothing", ones, at)
					}
				}
			}
		}
	}
}

// P2.3: 64 bits is how far it goes: one more, and there are texts that are the
// same. (So that checksums of fewer bits, or of more, fail here.)
func TestBitsChangedBeyond(t *testing.T) {
	s := mixed(24)
	for at := range 8*len(s) - 64 {
		// The bit at, and behind it what its step put over the number.
		other := turned(turned(s, at, 1), at+1, 0xc96c5795d7870f42)
		if other == s || crc.Sum(other) != crc.Sum(s) {
			t.Errorf("65 bits at %d: %x, %x", at, crc.Sum(other), crc.Sum(s))
		}
	}
}

// over is three texts of one length, over one another.
func over(a, b, c string) string {
	out := make([]byte, len(a))
	for i := range out {
		out[i] = a[i] ^ b[i] ^ c[i]
	}
	return string(out)
}

// P2.3: three texts of one length, over one another.
func TestThreeTexts(t *testing.T) {
	for _, n := range []int{0, 1, 2, 7, 8, 9, 63, 64, 65, 256, 1 << 16} {
		l := []string{mixed(n), mixed(n + 1)[1:], mixed(n + 2)[2:], strings.Repeat("\x00", n), strings.Repeat("\xff", n)}
		for _, a := range l {
			for _, b := range l {
				for _, c := range l {
					if crc.Sum(a)^crc.Sum(b)^crc.Sum(c) != crc.Sum(over(a, b, c)) {
						t.Errorf("three texts of %d", n)
					}
				}
			}
		}
	}
}
