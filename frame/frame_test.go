package frame_test

import (
	"bytes"
	"encoding/binary"
	"hash/crc64"
	"slices"
	"strings"
	"testing"

	"palaver/api"
	"palaver/frame"
)

// lead is a length's bytes, as the chapters say them, for a length of up to 3
// bytes.
func lead(n int) string {
	switch {
	case n < 248:
		return string([]byte{byte(n)})
	case n < 1<<8:
		return string([]byte{248, byte(n)})
	case n < 1<<16:
		return string([]byte{249, byte(n >> 8), byte(n)})
	}
	return string([]byte{250, byte(n >> 16), byte(n >> 8), byte(n)})
}

// sumOf is the checksum's eight bytes, by the library.
func sumOf(s string) string {
	sum := crc64.Checksum([]byte(s), crc64.MakeTable(crc64.ECMA))
	return string(binary.LittleEndian.AppendUint64(nil, sum))
}

// framed is a frame as the chapter says it, whatever the inside.
func framed(inside string) string { return lead(len(inside)) + sumOf(inside) + inside }

// mixed is n bytes, of all kinds.
func mixed(n int) string {
	b := make([]byte, n)
	x := uint64(n)
	for i := range b {
		x = x*6364136223846793005 + 1442695040888963407
		b[i] = byte(x >> 56)
	}
	return string(b)
}

// insides may all be: the edges of the lengths, and bytes that look like parts
// of a frame.
func insides() []string {
	l := []string{"\x00", "a", "\xff", "one", "123456789", "\x00\x00\x00", "\xf8\x03abc", framed("x"), framed(framed("x"))}
	for _, n := range []int{2, 8, 246, 247, 248, 249, 255, 256, 257, 1024, 65534, 65535, 65536} {
		l = append(l, mixed(n), strings.Repeat("\x00", n))
	}
	return l
}

// outsides may not be.
func outsides() []string {
	return []string{"", mixed(65537), strings.Repeat("\x00", 65537), mixed(65538), mixed(1 << 17), strings.Repeat("x", 1<<20)}
}

// spoil writes all over b and the room behind its end.
func spoil(b []byte) {
	b = b[:cap(b)]
	for i := range b {
		b[i] ^= 0x55
	}
}

// P3.1: the frame, behind the bytes that there are.
func TestPut(t *testing.T) {
	for _, s := range insides() {
		for _, b := range []string{"", "x", framed("ahead"), "\xff\xff"} {
			if got, e := frame.Put([]byte(b), s); string(got) != b+framed(s) || e != api.OK {
				t.Errorf("Put behind %q, %d bytes: %d bytes, %v", b, len(s), len(got), e)
			}
		}
		if got, e := frame.Put(nil, s); string(got) != framed(s) || e != api.OK {
			t.Errorf("Put behind nil, %d bytes: %d bytes, %v", len(s), len(got), e)
		}
	}
}

// P3.1: a frame byte by byte: the length, the checksum with its lowest byte
// first, the inside.
func TestPutBytes(t *testing.T) {
	want := "\x09\xfa\x39\x19\xdf\xbb\xc9\x5d\x99123456789"
	if got, e := frame.Put(nil, "123456789"); string(got) != want || e != api.OK {
		t.Errorf("% x, %v", got, e)
	}
	want = "ab\x01\x05\x2b\x65\x2e\x77\x84\x02\x33a"
	if got, e := frame.Put([]byte("ab"), "a"); string(got) != want || e != api.OK {
		t.Errorf("% x, %v", got, e)
	}
}

// P3.1: an inside of no bytes, or of more than MaxFrame: ErrLong, and the
// bytes as they were.
func TestPutLong(t *testing.T) {
	for _, s := range outsides() {
		for _, b := range []string{"", "x", framed("ahead")} {
			if got, e := frame.Put([]byte(b), s); string(got) != b || e != api.ErrLong {
				t.Errorf("Put behind %q, %d bytes: %q, %v", b, len(s), got, e)
			}
		}
		if got, e := frame.Put(nil, s); len(got) != 0 || e != api.ErrLong {
			t.Errorf("Put behind nil, %d bytes: %q, %v", len(s), got, e)
		}
	}
}

// P3.1 (R3): what is handed in stays as it was, with the room behind its end.
func TestPutLeavesWhatItIsHanded(t *testing.T) {
	for _, s := range []string{"", "a", mixed(20), mixed(65537)} {
		all := bytes.Repeat([]byte{0xaa}, 64)
		frame.Put(all[:3], s)
		frame.Put(all[:0], s)
		if !bytes.Equal(all, bytes.Repeat([]byte{0xaa}, 64)) {
			t.Errorf("an inside of %d: % x", len(s), all)
		}
	}
}

// P3.1 (R3): what is handed out is new memory, spare room too, beside ErrLong
// as well.
func TestPutAnswersNewMemory(t *testing.T) {
	for _, s := range []string{"", "a", mixed(20), mixed(65537)} {
		for _, n := range []int{0, 2} {
			in := append(make([]byte, 0, 64), "in"[:n]...)
			one, _ := frame.Put(in, s)
			two, _ := frame.Put(in, s)
			want := string(two)
			spoil(one)
			if string(two) != want || string(in) != "in"[:n] {
				t.Errorf("an inside of %d: % x, of % x", len(s), two, in)
			}
			three, _ := frame.Put(two, s)
			spoil(two)
			if !strings.HasPrefix(string(three), want) {
				t.Errorf("an inside of %d, of an answer: % x", len(s), three)
			}
			four, _ := frame.Put(three, s)
			five, _ := frame.Put(three, s)
			want = string(five)
			spoil(four)
			if string(five) != want {
				t.Errorf("an inside of %d, twice of an answer: % x", len(s), five)
			}
		}
	}
}

// P3.2: the inside, and how many bytes the frame has, whatever is behind it.
func TestTake(t *testing.T) {
	for _, s := range insides() {
		whole := framed(s)
		for _, tail := range []string{"", "\x00", "a", "\xff\xff\xff", whole, mixed(30)} {
			if got, n, e := frame.Take(whole + tail); got != s || n != len(whole) || e != api.OK {
				t.Errorf("an inside of %d, %d bytes behind: %d bytes, %d, %v", len(s), len(tail), len(got), n, e)
			}
		}
	}
}

// fails: Take answers e, and nothing beside it.
func fails(t *testing.T, name, s string, e api.Errno) {
	t.Helper()
	if inside, n, got := frame.Take(s); inside != "" || n != 0 || got != e {
		t.Errorf("%s: %q, %d, %v, not %v", name, inside, n, got, e)
	}
}

// P3.2: a length that is 0, above MaxFrame, or in more bytes than it needs:
// ErrForm, whatever is behind it, nothing too.
func TestTakeForm(t *testing.T) {
	lengths := map[string]string{
		"0":                          "\x00",
		"65537":                      "\xfa\x01\x00\x01",
		"65538":                      "\xfa\x01\x00\x02",
		"131072":                     "\xfa\x02\x00\x00",
		"2 to 24":                    "\xfb\x01\x00\x00\x00",
		"2 to 31":                    "\xfb\x80\x00\x00\x00",
		"2 to 32, and 1":             "\xfc\x01\x00\x00\x00\x01",
		"2 to 63, and 1":             "\xff\x80\x00\x00\x00\x00\x00\x00\x01",
		"the greatest":               "\xff\xff\xff\xff\xff\xff\xff\xff\xff",
		"0 in 2 bytes":               "\xf8\x00",
		"1 in 2 bytes":               "\xf8\x01",
		"3 in 2 bytes":               "\xf8\x03",
		"247 in 2 bytes":             "\xf8\xf7",
		"3 in 3 bytes":               "\xf9\x00\x03",
		"255 in 3 bytes":             "\xf9\x00\xff",
		"65535 in 4 bytes":           "\xfa\x00\xff\xff",
		"65536 in 5 bytes":           "\xfb\x00\x01\x00\x00",
		"1 in 9 bytes":               "\xff\x00\x00\x00\x00\x00\x00\x00\x01",
		"65537, and in 5 bytes":      "\xfb\x00\x01\x00\x01",
		"0 in 9 bytes, of all kinds": "\xff\x00\x00\x00\x00\x00\x00\x00\x00",
	}
	long := mixed(1 << 17)
	for name, l := range lengths {
		tails := []string{"", "\x00", sumOf("")[:7], sumOf(""), sumOf("abc") + "abc", sumOf(long[:65537]) + long[:65537], sumOf(long) + long}
		for _, tail := range tails {
			fails(t, name, l+tail, api.ErrForm)
		}
	}
}

// P3.2: bytes that end within the length, the checksum or the inside:
// ErrShort, of each place.
func TestTakeShort(t *testing.T) {
	fails(t, "no bytes", "", api.ErrShort)
	for _, s := range []string{"\xf8", "\xf9", "\xf9\x01", "\xfa\x01\x00", "\xff", "\xff\xff\xff\xff\xff\xff\xff\xff", "\xff\x00\x00\x00\x00\x00\x00\x00"} {
		fails(t, "a length", s, api.ErrShort)
	}
	for _, s := range []string{"a", "one", mixed(247), mixed(248), mixed(256), mixed(300)} {
		whole := framed(s)
		for n := range len(whole) {
			fails(t, "a frame that is cut", whole[:n], api.ErrShort)
		}
	}
	whole := framed(mixed(65536))
	for _, n := range []int{1, 2, 3, 4, 5, 11, 12, 13, 40000, len(whole) - 2, len(whole) - 1} {
		fails(t, "a long frame that is cut", whole[:n], api.ErrShort)
	}
	// That the checksum is another one isn't seen ahead of the end.
	fails(t, "two zeros", "\x01\x00\x00", api.ErrShort)
	fails(t, "another checksum, and no inside", "\x01"+sumOf("b"), api.ErrShort)
	fails(t, "another checksum, and a byte less", "\x03"+sumOf("abcd")+"ab", api.ErrShort)
}

// P3.2: another checksum: ErrSum, whichever it is.
func TestTakeSum(t *testing.T) {
	for _, s := range insides() {
		for name, other := range map[string]string{
			"none":        strings.Repeat("\x00", 8),
			"ones":        strings.Repeat("\xff", 8),
			"a byte more": sumOf(s + "\x00"),
			"a byte less": sumOf(s[1:]),
			"backwards":   backwards(sumOf(s)),
		} {
			if other == sumOf(s) {
				continue
			}
			for _, tail := range []string{"", "\x00", framed(s)} {
				fails(t, "another checksum: "+name, lead(len(s))+other+s+tail, api.ErrSum)
			}
		}
	}
	// A length that is said wrongly takes other bytes for the inside.
	fails(t, "a length less", "\x02"+sumOf("abc")+"abc", api.ErrSum)
	fails(t, "a length more", "\x04"+sumOf("abc")+"abcd", api.ErrSum)
	fails(t, "two zeros, and more", "\x01\x00\x00"+mixed(8), api.ErrSum)
}

// backwards is a text of one byte a place the other way round.
func backwards(s string) string {
	b := []byte(s)
	slices.Reverse(b)
	return string(b)
}

// P3.1, P3.2: what was put is taken, and as many bytes.
func TestPutIsTaken(t *testing.T) {
	for _, s := range insides() {
		b, _ := frame.Put(nil, s)
		if got, n, e := frame.Take(string(b)); got != s || n != len(b) || e != api.OK {
			t.Errorf("an inside of %d: %d bytes, %d of %d, %v", len(s), len(got), n, len(b), e)
		}
	}
}

// P3.1, P3.2 (R2): the same again, whatever was asked meanwhile.
func TestNothingIsLeft(t *testing.T) {
	for range 3 {
		for _, s := range append(outsides(), "b", mixed(70)) {
			frame.Put([]byte("behind"), s)
			frame.Take(framed(s))
			frame.Split(framed(s) + framed(s)[:5])
		}
		if b, e := frame.Put(nil, "a"); string(b) != framed("a") || e != api.OK {
			t.Errorf("% x, %v", b, e)
		}
		fails(t, "the same again", "\x05", api.ErrShort)
	}
}

// The chapter's examples.
func TestExamples(t *testing.T) {
	if b, e := frame.Put(nil, ""); len(b) != 0 || e != api.ErrLong {
		t.Error("Put(nothing, nothing):", b, e)
	}
	fails(t, "00", "\x00", api.ErrForm)
	fails(t, "01 00 00", "\x01\x00\x00", api.ErrShort)
	if l, at, e := frame.Split(""); len(l) != 0 || at != 0 || e != api.OK {
		t.Error("Split(nothing):", l, at, e)
	}
}
