package ballot_test

import (
	"bytes"
	"math"
	"slices"
	"testing"

	"palaver/api"
	"palaver/ballot"
	"palaver/wire"
)

// texts: what ballots' bytes are.
func texts() map[api.Ballot]string {
	return map[api.Ballot]string{
		none():             "\x00\x00",
		of(1, 0):           "\x01\x00",
		of(1, last):        "\x01\x06",
		of(7, 2):           "\x07\x02",
		of(247, 3):         "\xf7\x03",
		of(248, 4):         "\xf8\xf8\x04",
		of(300, 2):         "\xf9\x01\x2c\x02",
		of(1<<16, 5):       "\xfa\x01\x00\x00\x05",
		of(1<<62, 1):       "\xff\x40\x00\x00\x00\x00\x00\x00\x00\x01",
		of(greatest, 0):    "\xff\xff\xff\xff\xff\xff\xff\xff\xff\x00",
		of(greatest, last): "\xff\xff\xff\xff\xff\xff\xff\xff\xff\x06",
	}
}

// bad: what the bytes are of ballots that may not be.
func bad() map[api.Ballot]string {
	return map[api.Ballot]string{
		of(0, 1):           "\x00\x01",
		of(0, last):        "\x00\x06",
		of(0, 7):           "\x00\x07",
		of(0, 255):         "\x00\xff",
		of(1, 7):           "\x01\x07",
		of(1, 248):         "\x01\xf8", // the node is a byte, not a number
		of(1, 255):         "\x01\xff",
		of(300, 8):         "\xf9\x01\x2c\x08",
		of(greatest, 7):    "\xff\xff\xff\xff\xff\xff\xff\xff\xff\x07",
		of(greatest, 255):  "\xff\xff\xff\xff\xff\xff\xff\xff\xff\xff",
		of(1<<62, last+1):  "\xff\x40\x00\x00\x00\x00\x00\x00\x00\x07",
		of(1<<32-1, 0x80):  "\xfb\xff\xff\xff\xff\x80",
		of(greatest-1, 16): "\xff\xff\xff\xff\xff\xff\xff\xff\xfe\x10",
	}
}

// P7.3: Put: its number and its node, behind bytes, and behind none; also of
// one that may not be.
func TestPut(t *testing.T) {
	for _, m := range []map[api.Ballot]string{texts(), bad()} {
		for x, want := range m {
			for _, b := range []string{"", "x", "\xf8\x00ahead"} {
				if got := ballot.Put([]byte(b), x); string(got) != b+want {
					t.Errorf("Put(%q, %v): % x", b, x, got)
				}
			}
			if got := ballot.Put(nil, x); string(got) != want {
				t.Errorf("Put(nil, %v): % x", x, got)
			}
		}
	}
	for _, x := range all() {
		want := append(wire.Num([]byte("ab"), x.N), x.R)
		if got := ballot.Put([]byte("ab"), x); !bytes.Equal(got, want) {
			t.Errorf("%v: % x", x, got)
		}
	}
}

// P7.3 (R3): what Put is handed stays as it was, with the room behind its end;
// what it answers is new memory, spare room too.
func TestPutMemory(t *testing.T) {
	for _, x := range []api.Ballot{none(), of(7, 2), of(300, 6), of(greatest, 0), of(0, 255)} {
		room := bytes.Repeat([]byte{0xaa}, 64)
		for _, n := range []int{0, 3, 63, 64} {
			one, two := ballot.Put(room[:n], x), ballot.Put(room[:n], x)
			if !bytes.Equal(room, bytes.Repeat([]byte{0xaa}, 64)) {
				t.Fatalf("Put(%d bytes, %v) wrote % x", n, x, room)
			}
			want := string(two)
			spoil(one)
			if string(two) != want || !bytes.Equal(room, bytes.Repeat([]byte{0xaa}, 64)) {
				t.Fatalf("Put(%d bytes, %v): what is written to an answer is seen", n, x)
			}
			three, four := ballot.Put(two, x), ballot.Put(two, x)
			want = string(four)
			spoil(two)
			spoil(three)
			if string(four) != want {
				t.Fatalf("Put of an answer, %v: what is written to one is seen", x)
			}
		}
	}
}

// spoil writes all over b and the room behind its end.
func spoil(b []byte) {
	b = b[:cap(b)]
	for i := range b {
		b[i] = 0x55
	}
}

// fails reads a ballot of bytes that are none: none is told, and the error,
// which stays.
func fails(t *testing.T, in string, want api.Errno) {
	t.Helper()
	r := wire.Of(in)
	for range 2 {
		if b := ballot.Take(r); b != none() || r.Err() != want || r.Left() != 0 {
			t.Errorf("% x: %v, %v, %d left, not %v", in, b, r.Err(), r.Left(), want)
		}
	}
	if e := r.End(); e != want {
		t.Errorf("% x: End %v, not %v", in, e, want)
	}
}

// P7.3: Take: the ballot, and just its bytes; those behind it stay unread.
func TestTake(t *testing.T) {
	for want, in := range texts() {
		for _, behind := range []string{"", "\x00", "\xff\xff", "behind"} {
			r := wire.Of(in + behind)
			if b := ballot.Take(r); b != want || r.Err() != api.OK || r.Left() != len(behind) {
				t.Errorf("% x: %v, %v, %d left", in+behind, b, r.Err(), r.Left())
			}
			if behind != "" && (r.Byte() != behind[0] || r.Err() != api.OK) {
				t.Errorf("% x: what is behind it is %v", in+behind, r.Err())
			}
		}
	}
}

// P7.3: bytes that end within it.
func TestTakeShort(t *testing.T) {
	for _, m := range []map[api.Ballot]string{texts(), bad()} {
		for _, in := range m {
			for n := range len(in) {
				fails(t, in[:n], api.ErrShort)
			}
		}
	}
}

// P7.3: a ballot that may not be, whatever is behind it.
func TestTakeBad(t *testing.T) {
	for _, in := range bad() {
		fails(t, in, api.ErrForm)
		fails(t, in+"\x01\x01", api.ErrForm)
	}
	for r := range 256 {
		in := string([]byte{5, byte(r)})
		if r < 7 {
			x := wire.Of(in)
			if b := ballot.Take(x); b != of(5, uint8(r)) || x.End() != api.OK {
				t.Errorf("% x: %v, %v", in, b, x.Err())
			}
		} else {
			fails(t, in, api.ErrForm)
		}
		if r > 0 {
			fails(t, string([]byte{0, byte(r)}), api.ErrForm)
		}
	}
}

// P7.3: a number that is not in its shortest form, though the node is none, or
// not there: what is wrong first is told.
func TestTakeLongForm(t *testing.T) {
	for _, n := range []string{"\xf8\x00", "\xf8\x01", "\xf8\xf7", "\xf9\x00\x01", "\xf9\x00\xff", "\xfa\x00\x01\x00", "\xff\x00\xff\xff\xff\xff\xff\xff\xff"} {
		for _, node := range []string{"", "\x00", "\x06", "\x07", "\x00\x00"} {
			fails(t, n+node, api.ErrForm)
		}
	}
	for _, n := range []string{"\xf8", "\xf9\x01", "\xff\x01\x02\x03\x04\x05\x06\x07"} {
		fails(t, n, api.ErrShort)
	}
}

// P7.3: an error that a reader has stays, whatever its bytes would be.
func TestTakeBehindAnError(t *testing.T) {
	r := wire.Of("\x01\x02\x01\x07")
	r.Bad()
	if b := ballot.Take(r); b != none() || r.Err() != api.ErrForm || r.Left() != 0 {
		t.Error("behind Bad:", b, r.Err())
	}
	r = wire.Of("\x05\x01\x02")
	r.Str(9)
	if b := ballot.Take(r); b != none() || r.Err() != api.ErrShort {
		t.Error("behind a text that is cut:", b, r.Err())
	}
	r = wire.Of("\x01")
	ballot.Take(r)
	r.Bad()
	if b := ballot.Take(r); b != none() || r.Err() != api.ErrShort {
		t.Error("behind a ballot that is cut:", b, r.Err())
	}
}

// P7.3 (R1): a nil reader has none.
func TestTakeOfNil(t *testing.T) {
	var r *wire.Reader
	for range 2 {
		if b := ballot.Take(r); b != none() || r.Err() != api.ErrNil {
			t.Error(b, r.Err())
		}
	}
}

// P7.3: what was put is read, one behind the other, and nothing is left.
func TestPutAndTake(t *testing.T) {
	l := maybe()
	var b []byte
	for _, x := range l {
		b = ballot.Put(b, x)
	}
	r := wire.Of(string(b))
	var got []api.Ballot
	for range l {
		got = append(got, ballot.Take(r))
	}
	if !slices.Equal(got, l) || r.End() != api.OK {
		t.Errorf("%v, %v, not %v", got, r.Err(), l)
	}
	// A bad one between two others: those behind it are not read.
	r = wire.Of(string(ballot.Put(ballot.Put(ballot.Put(nil, of(300, 2)), of(0, 2)), of(4, 4))))
	one, two, three := ballot.Take(r), ballot.Take(r), ballot.Take(r)
	if one != of(300, 2) || two != none() || three != none() || r.End() != api.ErrForm {
		t.Error(one, two, three, r.Err())
	}
}

// P7.3 (R1): of any bytes a ballot is read that may be, whose bytes they are,
// or none and an error.
func TestTakeOfAnyBytes(t *testing.T) {
	for a := range 256 {
		for b := range 256 {
			for _, tail := range []string{"", "\x00", "\x07\x01", "\xf8\x06\x01\x01\x01\x01\x01\x01\x01\x01"} {
				in := string([]byte{byte(a), byte(b)}) + tail
				r := wire.Of(in)
				x := ballot.Take(r)
				if r.Err() != api.OK {
					if x != none() || r.Left() != 0 {
						t.Errorf("% x: %v, %v", in, x, r.Err())
					}
					continue
				}
				if read := in[:len(in)-r.Left()]; ballot.Check(x) != api.OK || string(ballot.Put(nil, x)) != read {
					t.Errorf("% x: %v", in, x)
				}
			}
		}
	}
}

// P7.3: a number in which any one bit is 1 is read as that number.
func TestTakeEachBit(t *testing.T) {
	for i := range 64 {
		for _, n := range []uint64{1 << i, math.MaxUint64 >> i} {
			r := wire.Of(string(ballot.Put(nil, of(n, 6))))
			if b := ballot.Take(r); b != of(n, 6) || r.End() != api.OK {
				t.Errorf("%d: %v, %v", n, b, r.Err())
			}
		}
	}
}
