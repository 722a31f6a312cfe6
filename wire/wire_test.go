package wire_test

import (
	"bytes"
	"math"
	"strings"
	"testing"

	"palaver/wire"
)

// numbers: what each number's bytes are, at the edges of every length.
var numbers = []struct {
	n    uint64
	want string
}{
	{0, "\x00"},
	{1, "\x01"},
	{127, "\x7f"},
	{128, "\x80"},
	{246, "\xf6"},
	{247, "\xf7"},
	{248, "\xf8\xf8"},
	{249, "\xf8\xf9"},
	{255, "\xf8\xff"},
	{256, "\xf9\x01\x00"},
	{300, "\xf9\x01\x2c"},
	{1<<16 - 1, "\xf9\xff\xff"},
	{1 << 16, "\xfa\x01\x00\x00"},
	{1<<24 - 1, "\xfa\xff\xff\xff"},
	{1 << 24, "\xfb\x01\x00\x00\x00"},
	{1<<32 - 1, "\xfb\xff\xff\xff\xff"},
	{1 << 32, "\xfc\x01\x00\x00\x00\x00"},
	{1<<40 - 1, "\xfc\xff\xff\xff\xff\xff"},
	{1 << 40, "\xfd\x01\x00\x00\x00\x00\x00"},
	{1<<48 - 1, "\xfd\xff\xff\xff\xff\xff\xff"},
	{1 << 48, "\xfe\x01\x00\x00\x00\x00\x00\x00"},
	{1<<56 - 1, "\xfe\xff\xff\xff\xff\xff\xff\xff"},
	{1 << 56, "\xff\x01\x00\x00\x00\x00\x00\x00\x00"},
	{1 << 62, "\xff\x40\x00\x00\x00\x00\x00\x00\x00"},
	{1 << 63, "\xff\x80\x00\x00\x00\x00\x00\x00\x00"},
	{0x0123456789abcdef, "\xff\x01\x23\x45\x67\x89\xab\xcd\xef"},
	{math.MaxUint64 - 1, "\xff\xff\xff\xff\xff\xff\xff\xff\xfe"},
	{math.MaxUint64, "\xff\xff\xff\xff\xff\xff\xff\xff\xff"},
}

// texts: what the bytes of texts are, at the edges of their lengths' bytes.
func texts() map[string]string {
	m := map[string]string{
		"":         "\x00",
		"ab":       "\x02ab",
		"\x00\xff": "\x02\x00\xff",
		"\xf8":     "\x01\xf8",
	}
	for n, lead := range map[int]string{247: "\xf7", 248: "\xf8\xf8", 255: "\xf8\xff", 256: "\xf9\x01\x00", 65536: "\xfa\x01\x00\x00"} {
		s := strings.Repeat("t", n)
		m[s] = lead + s
	}
	return m
}

// P1.1: a number's bytes, behind those that there are.
func TestNum(t *testing.T) {
	for _, c := range numbers {
		for _, b := range []string{"", "x", "\xf8\x00ahead"} {
			if got := wire.Num([]byte(b), c.n); string(got) != b+c.want {
				t.Errorf("Num(%q, %d): % x", b, c.n, got)
			}
		}
		if got := wire.Num(nil, c.n); string(got) != c.want {
			t.Errorf("Num(nil, %d): % x", c.n, got)
		}
	}
}

// P1.1: a text's bytes, behind those that there are.
func TestStr(t *testing.T) {
	for s, want := range texts() {
		for _, b := range []string{"", "x", "\x05ahead"} {
			if got := wire.Str([]byte(b), s); string(got) != b+want {
				t.Errorf("Str(%q, a text of %d bytes): % x", b, len(s), got)
			}
		}
		if got := wire.Str(nil, s); string(got) != want {
			t.Errorf("Str(nil, a text of %d bytes): % x", len(s), got)
		}
	}
}

// puts: each way to put something behind bytes.
func puts() map[string]func([]byte) []byte {
	return map[string]func([]byte) []byte{
		"Num of one byte": func(b []byte) []byte { return wire.Num(b, 7) },
		"Num of more":     func(b []byte) []byte { return wire.Num(b, math.MaxUint64) },
		"Str of none":     func(b []byte) []byte { return wire.Str(b, "") },
		"Str":             func(b []byte) []byte { return wire.Str(b, "text") },
	}
}

// P1.1 (R3): what is handed in stays as it was, with the room behind its end.
func TestPutLeavesWhatItIsHanded(t *testing.T) {
	for name, put := range puts() {
		all := bytes.Repeat([]byte{0xaa}, 64)
		put(all[:3])
		put(all[:0])
		if !bytes.Equal(all, bytes.Repeat([]byte{0xaa}, 64)) {
			t.Errorf("%s: % x", name, all)
		}
	}
}

// P1.1 (R3): what is handed out is new memory, spare room too.
func TestPutAnswersNewMemory(t *testing.T) {
	for name, put := range puts() {
		in := append(make([]byte, 0, 64), "in"...)
		one, two := put(in), put(in)
		want := string(two)
		spoil(one)
		if string(two) != want || string(in) != "in" {
			t.Errorf("%s: % x, of % x", name, two, in)
		}
		three := put(two)
		spoil(two)
		if !strings.HasPrefix(string(three), want) {
			t.Errorf("%s, of an answer: % x", name, three)
		}
		four, five := put(three), put(three)
		want = string(five)
		spoil(four)
		if string(five) != want {
			t.Errorf("%s, twice of an answer: % x", name, five)
		}
	}
}

// spoil writes all over b and the room behind its end.
func spoil(b []byte) {
	b = b[:cap(b)]
	for i := range b {
		b[i] = 0x55
	}
}
