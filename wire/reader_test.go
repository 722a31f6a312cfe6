package wire_test

import (
	"math"
	"slices"
	"strings"
	"testing"

	"palaver/api"
	"palaver/wire"
)

// readings: each way to read something, told as whether it was zero.
func readings() map[string]func(*wire.Reader) bool {
	return map[string]func(*wire.Reader) bool{
		"Byte":      func(r *wire.Reader) bool { return r.Byte() == 0 },
		"Num":       func(r *wire.Reader) bool { return r.Num() == 0 },
		"Below 0":   func(r *wire.Reader) bool { return r.Below(0) == 0 },
		"Below 1":   func(r *wire.Reader) bool { return r.Below(1) == 0 },
		"Below all": func(r *wire.Reader) bool { return r.Below(math.MaxUint64) == 0 },
		"Str of -1": func(r *wire.Reader) bool { return r.Str(-1) == "" },
		"Str of 0":  func(r *wire.Reader) bool { return r.Str(0) == "" },
		"Str":       func(r *wire.Reader) bool { return r.Str(math.MaxInt) == "" },
	}
}

// stays: the error is e, and stays so, whatever is read, said or asked.
func stays(t *testing.T, name string, r *wire.Reader, e api.Errno) {
	t.Helper()
	for range 2 {
		for what, zero := range readings() {
			if !zero(r) {
				t.Errorf("%s: %s behind the error is not zero", name, what)
			}
			if got := r.Err(); got != e {
				t.Errorf("%s: behind %s the error is %v, not %v", name, what, got, e)
			}
		}
		if n := r.Left(); n != 0 {
			t.Errorf("%s: %d bytes are left behind an error", name, n)
		}
		if got := r.End(); got != e {
			t.Errorf("%s: End %v, not %v", name, got, e)
		}
		r.Bad()
	}
	if got := r.Err(); got != e {
		t.Errorf("%s: behind Bad the error is %v, not %v", name, got, e)
	}
}

// P1.2: Byte: each byte, from the beginning; then ErrShort.
func TestByte(t *testing.T) {
	in := "\x00a\xf8\xff"
	r := wire.Of(in)
	for i := range len(in) {
		if n := r.Left(); n != len(in)-i {
			t.Errorf("ahead of byte %d: %d left", i, n)
		}
		if c := r.Byte(); c != in[i] || r.Err() != api.OK {
			t.Errorf("byte %d: %x, %v", i, c, r.Err())
		}
	}
	if r.Left() != 0 || r.End() != api.OK {
		t.Error("at the end:", r.Left(), r.End())
	}
	if c := r.Byte(); c != 0 || r.Err() != api.ErrShort {
		t.Errorf("past the end: %x, %v", c, r.Err())
	}
	stays(t, "past the end", r, api.ErrShort)
}

// P1.2: Num: a number, just that, and no byte behind it.
func TestReadNum(t *testing.T) {
	for _, c := range numbers {
		r := wire.Of(c.want + "\xfftail")
		if n := r.Num(); n != c.n || r.Err() != api.OK || r.Left() != 5 {
			t.Errorf("% x: %d, %v, %d left", c.want, n, r.Err(), r.Left())
		}
	}
}

// P1.2: Num: bytes that end within it, and more bytes than it needs.
func TestReadNumBad(t *testing.T) {
	short := []string{"", "\xf8", "\xf9", "\xf9\x01", "\xfa\x01\x00", "\xff", "\xff\x01\x02\x03\x04\x05\x06\x07", "\xf9\x00"}
	for _, s := range short {
		r := wire.Of(s)
		if n := r.Num(); n != 0 || r.Err() != api.ErrShort {
			t.Errorf("% x: %d, %v", s, n, r.Err())
		}
		stays(t, "short", r, api.ErrShort)
	}
	more := []string{"\xf8\x00", "\xf8\x05", "\xf8\xf7", "\xf9\x00\x00", "\xf9\x00\xf7", "\xf9\x00\xff", "\xfa\x00\xff\xff", "\xff\x00\xff\xff\xff\xff\xff\xff\xff", "\xff\x00\x00\x00\x00\x00\x00\x00\x01"}
	for _, s := range more {
		for _, tail := range []string{"", "\x01\x01"} {
			r := wire.Of(s + tail)
			if n := r.Num(); n != 0 || r.Err() != api.ErrForm {
				t.Errorf("% x: %d, %v", s+tail, n, r.Err())
			}
			stays(t, "more bytes than it needs", r, api.ErrForm)
		}
	}
}

// P1.2: Below: a number below n, and ErrForm from n on.
func TestBelow(t *testing.T) {
	for _, c := range numbers {
		if c.n < math.MaxUint64 {
			r := wire.Of(c.want + "\x01")
			if n := r.Below(c.n + 1); n != c.n || r.Err() != api.OK || r.Left() != 1 {
				t.Errorf("%d below one more: %d, %v", c.n, n, r.Err())
			}
		}
		for _, limit := range []uint64{0, c.n / 2, c.n} {
			r := wire.Of(c.want + "\x01")
			if n := r.Below(limit); n != 0 || r.Err() != api.ErrForm {
				t.Errorf("%d below %d: %d, %v", c.n, limit, n, r.Err())
			}
			stays(t, "not below", r, api.ErrForm)
		}
	}
	for s, e := range map[string]api.Errno{"": api.ErrShort, "\xf9\x01": api.ErrShort, "\xf8\x05": api.ErrForm} {
		for _, limit := range []uint64{0, 9, math.MaxUint64} {
			r := wire.Of(s)
			if n := r.Below(limit); n != 0 || r.Err() != e {
				t.Errorf("% x below %d: %d, %v", s, limit, n, r.Err())
			}
		}
	}
}

// P1.2: Str: a text, just that, up to the greatest length that is said.
func TestReadStr(t *testing.T) {
	for s, in := range texts() {
		for _, most := range []int{len(s), len(s) + 1, math.MaxInt - 1, math.MaxInt} {
			r := wire.Of(in + "tail")
			if got := r.Str(most); got != s || r.Err() != api.OK || r.Left() != 4 {
				t.Errorf("a text of %d, most %d: %d, %v, %d left", len(s), most, len(got), r.Err(), r.Left())
			}
		}
		for _, most := range []int{len(s) - 1, 0, -1, math.MinInt} {
			r := wire.Of(in + "tail")
			if got := r.Str(most); len(s) > 0 && (got != "" || r.Err() != api.ErrForm) {
				t.Errorf("a text of %d, most %d: %q, %v", len(s), most, got, r.Err())
			}
		}
	}
	for _, most := range []int{0, -1, math.MinInt} {
		r := wire.Of("\x00\x01")
		if got := r.Str(most); got != "" || r.Err() != api.OK || r.Left() != 1 {
			t.Errorf("an empty text, most %d: %q, %v", most, got, r.Err())
		}
	}
}

// P1.2: Str: what is wrong with its length comes ahead of bytes that end.
func TestReadStrBad(t *testing.T) {
	great := "\xff\xff\xff\xff\xff\xff\xff\xff\xff"
	for _, c := range []struct {
		in   string
		most int
		want api.Errno
	}{
		{"", 0, api.ErrShort},
		{"", 9, api.ErrShort},
		{"\xf8", 9, api.ErrShort},
		{"\xf8\x01a", 9, api.ErrForm},
		{"\x05a", 9, api.ErrShort},
		{"\x05a", 5, api.ErrShort},
		{"\x05a", 4, api.ErrForm},
		{"\x05", 4, api.ErrForm},
		{"\x01", 0, api.ErrForm},
		{"\x01", -1, api.ErrForm},
		{"\x01a", -1, api.ErrForm},
		{"\x01a", math.MinInt, api.ErrForm},
		{"\xf8\xf8" + strings.Repeat("a", 247), 248, api.ErrShort},
		{great + "a", 9, api.ErrForm},
		{great + "a", math.MaxInt, api.ErrForm},
		{string(wire.Num(nil, math.MaxInt)) + "a", math.MaxInt - 1, api.ErrForm},
		{string(wire.Num(nil, math.MaxInt)) + "a", math.MaxInt, api.ErrShort},
		{string(wire.Num(nil, math.MaxInt+1)) + "a", math.MaxInt, api.ErrForm},
	} {
		r := wire.Of(c.in)
		if s := r.Str(c.most); s != "" || r.Err() != c.want {
			t.Errorf("% x, most %d: %q, %v, not %v", c.in, c.most, s, r.Err(), c.want)
		}
		stays(t, "a bad text", r, c.want)
	}
}

// P1.2: Bad: ErrForm, if there was no error; at any place.
func TestBad(t *testing.T) {
	for _, in := range []string{"", "\x05", "\x05rest"} {
		r := wire.Of(in)
		if in != "" {
			r.Byte()
		}
		r.Bad()
		if r.Err() != api.ErrForm {
			t.Errorf("%q: %v", in, r.Err())
		}
		stays(t, "Bad", r, api.ErrForm)
	}
	r := wire.Of("")
	r.Byte()
	r.Bad()
	if r.Err() != api.ErrShort {
		t.Error("Bad behind ErrShort:", r.Err())
	}
}

// P1.3: the first error stays, whichever comes behind it.
func TestFirstErrorStays(t *testing.T) {
	r := wire.Of("\x05\x05a")
	if r.Below(5) != 0 || r.Str(9) != "" || r.Err() != api.ErrForm {
		t.Error("ErrForm, then what would be short:", r.Err())
	}
	r = wire.Of("\x02a")
	if r.Str(9) != "" || r.Below(0) != 0 || r.Err() != api.ErrShort {
		t.Error("ErrShort, then what would be ErrForm:", r.Err())
	}
	stays(t, "ErrShort", r, api.ErrShort)
}

// P1.3: Err asks only; End makes bytes that are left an error that stays.
func TestEnd(t *testing.T) {
	r := wire.Of("ab")
	if r.Err() != api.OK || r.Left() != 2 || r.Byte() != 'a' || r.Err() != api.OK || r.Left() != 1 {
		t.Error("Err changes something")
	}
	if r.End() != api.ErrForm || r.Err() != api.ErrForm || r.Left() != 0 || r.Byte() != 0 {
		t.Error("End with a byte left:", r.Err(), r.Left())
	}
	stays(t, "a byte left", r, api.ErrForm)

	r = wire.Of("a")
	r.Byte()
	if r.End() != api.OK || r.End() != api.OK || r.Err() != api.OK {
		t.Error("End with nothing left:", r.Err())
	}
	if wire.Of("").End() != api.OK || wire.Of("").Left() != 0 {
		t.Error("End of no bytes")
	}
	r.Byte()
	if r.End() != api.ErrShort {
		t.Error("End behind ErrShort:", r.Err())
	}
}

// P1.3: a nil reader: ErrNil, and nothing else.
func TestNilReader(t *testing.T) {
	var r *wire.Reader
	if r.Err() != api.ErrNil || r.End() != api.ErrNil {
		t.Error("nil:", r.Err(), r.End())
	}
	stays(t, "nil", r, api.ErrNil)
}

// P1.2 (R2): of two readers of the same bytes each goes its own way.
func TestReadersApart(t *testing.T) {
	one, two := wire.Of("\x07ab"), wire.Of("\x07ab")
	one.Byte()
	one.Bad()
	if two.Left() != 3 || two.Err() != api.OK || two.Num() != 7 {
		t.Error("a second reader:", two.Left(), two.Err())
	}
}

// part: a number (text nil) or a text.
type part struct {
	n    uint64
	text *string
}

func (p part) put(b []byte) []byte {
	if p.text == nil {
		return wire.Num(b, p.n)
	}
	return wire.Str(b, *p.text)
}

func (p part) read(r *wire.Reader) bool {
	if p.text == nil {
		return r.Num() == p.n
	}
	return r.Str(len(*p.text)) == *p.text
}

// parts: all the numbers and texts, one kind behind the other.
func parts() []part {
	var l []part
	for _, c := range numbers {
		l = append(l, part{n: c.n})
	}
	for _, s := range []string{"", "a", "\xf8\x00", strings.Repeat("\xff", 247), strings.Repeat("\x00", 248)} {
		l = append(l, part{text: &s}, part{n: uint64(len(s))})
	}
	return l
}

// P1.4: what was put is read, one behind the other, and nothing is left.
func TestPutIsRead(t *testing.T) {
	there := parts()
	back := slices.Clone(there)
	slices.Reverse(back)
	for _, l := range [][]part{there, back} {
		var b []byte
		for _, p := range l {
			b = p.put(b)
		}
		r := wire.Of(string(b))
		for i, p := range l {
			if !p.read(r) || r.Err() != api.OK {
				t.Errorf("part %d: %v", i, r.Err())
			}
		}
		if r.Left() != 0 || r.End() != api.OK {
			t.Error("behind all parts:", r.Left(), r.End())
		}
	}
}

// P1.4: with a byte less at the end it is ErrShort, at the part that lacks it.
func TestByteLess(t *testing.T) {
	for i, p := range parts() {
		b := p.put(nil)
		for n := range len(b) {
			r := wire.Of(string(b[:n]))
			p.read(r)
			if r.Err() != api.ErrShort || r.End() != api.ErrShort {
				t.Errorf("part %d, %d bytes of %d: %v", i, n, len(b), r.Err())
			}
		}
		ahead := wire.Num(nil, 300)
		b = p.put(ahead)
		r := wire.Of(string(b[:len(b)-1]))
		if r.Num() != 300 || r.Err() != api.OK {
			t.Errorf("ahead of part %d: %v", i, r.Err())
		}
		p.read(r)
		if r.End() != api.ErrShort {
			t.Errorf("part %d, behind another one: %v", i, r.End())
		}
	}
}

// P1.4: bytes that are wholly one number are that number's bytes. All bytes
// of up to two, and of each length those whose first two and last are any.
func TestOneNumberOneForm(t *testing.T) {
	try := func(s string) {
		r := wire.Of(s)
		n := r.Num()
		if ok := r.End() == api.OK; ok != oneNumber(s) {
			t.Errorf("% x: %v", s, r.Err())
		} else if ok && string(wire.Num(nil, n)) != s {
			t.Errorf("% x is read as %d, whose bytes are % x", s, n, wire.Num(nil, n))
		}
	}
	for lead := range 256 {
		try(string([]byte{byte(lead)}))
		for second := range 256 {
			try(string([]byte{byte(lead), byte(second)}))
		}
	}
	for k := 2; k <= 8; k++ {
		for second := range 256 {
			for _, last := range []byte{0, 1, 247, 248, 255} {
				s := []byte{byte(247 + k), byte(second)}
				s = append(s, make([]byte, k-2)...)
				try(string(append(s, last)))
			}
		}
	}
}

// oneNumber: the bytes are wholly one number, by the chapter's words.
func oneNumber(s string) bool {
	switch k := len(s) - 1; {
	case k == 0:
		return s[0] < 248
	case int(s[0]) != 247+k:
		return false
	case k == 1:
		return s[1] >= 248
	default:
		return s[1] > 0
	}
}

// The chapter's examples.
func TestExamples(t *testing.T) {
	if r := wire.Of("\xf8\x05"); r.Num() != 0 || r.Err() != api.ErrForm {
		t.Error("f8 05:", r.Err())
	}
	if r := wire.Of("\x05\x61"); r.Str(9) != "" || r.Err() != api.ErrShort {
		t.Error("05 61, most 9:", r.Err())
	}
	if r := wire.Of("\x05\x61"); r.Str(4) != "" || r.Err() != api.ErrForm {
		t.Error("05 61, most 4:", r.Err())
	}
}
