package cmd_test

import (
	"bytes"
	"math"
	"testing"

	"palaver/api"
	"palaver/cmd"
	"palaver/wire"
)

// texts: what commands' bytes are.
func texts() map[string]api.Cmd {
	s := sample()
	return map[string]api.Cmd{
		"\x00\x01\x01\x01a\x00\x00\x00":                                                s[api.Get],
		"\x01\x02\x02\x01a\x00\x01x\x00":                                               s[api.Put],
		"\x02\xf7\x03\x03key\x00\x00\x00":                                              s[api.Del],
		"\x03\xf9\x01\x2c\x04\x02\x00\xff\x03old\x02n\xf8\x00":                         s[api.Cas],
		"\x00\xfb\xff\xff\xff\xff\x05\x00\x00\x00\x07":                                 s[api.Members],
		"\x01\xf8\xf8\x05\x00\x00\x00\xff":                                             {Client: 1, Seq: 248, Kind: api.Members, Set: 255},
		"\x00\x01\x05\x00\x00\x00\x00":                                                 {Seq: 1, Kind: api.Members},
		"\x00\x01\x04\x01k\x00\x00\x00":                                                {Seq: 1, Kind: api.Cas, Key: "k"},
		"\x03\x05\x04\x10" + size(16) + "\x40" + size(64) + "\x40" + size(64) + "\x00": {Client: 3, Seq: 5, Kind: api.Cas, Key: size(16), Old: size(64), New: size(64)},
	}
}

// bad: what the bytes are of commands that may not be, though each text of
// them is no longer than a command's may be.
func bad() map[string]api.Cmd {
	return map[string]api.Cmd{
		"\x00\x00\x00\x00\x00\x00\x00":                     {},
		"\x04\x01\x01\x01a\x00\x00\x00":                    {Client: 4, Seq: 1, Kind: api.Get, Key: "a"},
		"\xf8\x01\x01\x01a\x00\x00\x00":                    {Client: 248, Seq: 1, Kind: api.Get, Key: "a"}, // a byte, not a number
		"\x00\x00\x01\x01a\x00\x00\x00":                    {Kind: api.Get, Key: "a"},
		"\x00\x01\x00\x01a\x00\x00\x00":                    {Seq: 1, Key: "a"},
		"\x00\x01\x06\x01a\x00\x00\x00":                    {Seq: 1, Kind: 6, Key: "a"},
		"\x00\x01\xff\x01a\x00\x00\x00":                    {Seq: 1, Kind: 255, Key: "a"},
		"\x00\x01\x01\x00\x00\x00\x00":                     {Seq: 1, Kind: api.Get},
		"\x00\x01\x02\x00\x00\x01x\x00":                    {Seq: 1, Kind: api.Put, New: "x"},
		"\x00\x01\x03\x01a\x00\x01x\x00":                   {Seq: 1, Kind: api.Del, Key: "a", New: "x"},
		"\x00\x01\x01\x01a\x00\x01x\x00":                   {Seq: 1, Kind: api.Get, Key: "a", New: "x"},
		"\x00\x01\x01\x01a\x01x\x00\x00":                   {Seq: 1, Kind: api.Get, Key: "a", Old: "x"},
		"\x00\x01\x02\x01a\x01x\x00\x00":                   {Seq: 1, Kind: api.Put, Key: "a", Old: "x"},
		"\x00\x01\x03\x01a\x01x\x00\x00":                   {Seq: 1, Kind: api.Del, Key: "a", Old: "x"},
		"\x00\x01\x04\x01a\x01x\x00\x01":                   {Seq: 1, Kind: api.Cas, Key: "a", Old: "x", Set: 1},
		"\x00\x01\x02\x01a\x00\x00\xff":                    {Seq: 1, Kind: api.Put, Key: "a", Set: 255},
		"\x00\x01\x05\x01a\x00\x00\x01":                    {Seq: 1, Kind: api.Members, Key: "a", Set: 1},
		"\x00\x01\x05\x00\x01a\x00\x01":                    {Seq: 1, Kind: api.Members, Old: "a", Set: 1},
		"\x00\x01\x05\x00\x00\x01a\x01":                    {Seq: 1, Kind: api.Members, New: "a", Set: 1},
		"\x00\x01\x05\x00\x00\x40" + size(64) + "\x00":     {Seq: 1, Kind: api.Members, New: size(64)},
		"\x00\x01\x04\x00\x40" + size(64) + "\x00\x00":     {Seq: 1, Kind: api.Cas, Old: size(64)},
		"\x00\x01\x05\x10" + size(16) + "\x00\x00\x00":     {Seq: 1, Kind: api.Members, Key: size(16)},
		"\xff\xfb\xff\xff\xff\xff\xff\x00\x00\x00\xff":     {Client: 255, Seq: math.MaxUint32, Kind: 255, Set: 255},
		"\x04\x00\x00\x01a\x01b\x01c\x01":                  {Client: 4, Key: "a", Old: "b", New: "c", Set: 1},
		"\x00\xfa\x01\x00\x00\x05\x00\x00\x02\xf8\x00\x01": {Seq: 1 << 16, Kind: api.Members, New: "\xf8\x00", Set: 1},
	}
}

// long: what the bytes are of commands with a text that is longer than may be.
func long() map[string]api.Cmd {
	return map[string]api.Cmd{
		"\x00\x01\x01\x11" + size(17) + "\x00\x00\x00":                                          {Seq: 1, Kind: api.Get, Key: size(17)},
		"\x00\x01\x04\x01a\x41" + size(65) + "\x00\x00":                                         {Seq: 1, Kind: api.Cas, Key: "a", Old: size(65)},
		"\x00\x01\x02\x01a\x00\x41" + size(65) + "\x00":                                         {Seq: 1, Kind: api.Put, Key: "a", New: size(65)},
		"\x00\x01\x02\xf8\xf8" + size(248) + "\x00\xf9\x01\x00" + size(256) + "\x00":            {Seq: 1, Kind: api.Put, Key: size(248), New: size(256)},
		"\x09\x00\x09\xf9\x01\x01" + size(257) + "\xfa\x01\x00\x00" + size(1<<16) + "\x01x\x09": {Client: 9, Kind: 9, Key: size(257), Old: size(1 << 16), New: "x", Set: 9},
	}
}

// P9.1: Put: a command's bytes, behind some, and behind none, whether it may
// be or not, and also with texts that are longer than may be.
func TestPut(t *testing.T) {
	for _, m := range []map[string]api.Cmd{texts(), bad(), long()} {
		for want, c := range m {
			for _, b := range []string{"", "x", "\xf8\x00ahead"} {
				if got := cmd.Put([]byte(b), c); string(got) != b+want {
					t.Errorf("Put(%q, %+v): % x", b, c, got)
				}
			}
			if got := cmd.Put(nil, c); string(got) != want {
				t.Errorf("Put(nil, %+v): % x", c, got)
			}
		}
	}
}

// P9.1 (R3): what Put is handed stays as it was, with the room behind its end;
// what it answers is new memory, spare room too.
func TestPutMemory(t *testing.T) {
	spoilt := bytes.Repeat([]byte{0xaa}, 400)
	for _, m := range []map[string]api.Cmd{texts(), bad()} {
		for want, c := range m {
			room := bytes.Clone(spoilt)
			for _, n := range []int{0, 3, 399, 400} {
				one, two := cmd.Put(room[:n], c), cmd.Put(room[:n], c)
				if !bytes.Equal(room, spoilt) {
					t.Fatalf("Put wrote to what it was handed: %d bytes, %+v", n, c)
				}
				one = one[:cap(one)]
				for i := range one {
					one[i] = 0x55
				}
				if !bytes.Equal(room, spoilt) || string(two) != string(room[:n])+want {
					t.Fatalf("what Put answered is not new: %d bytes, %+v", n, c)
				}
			}
		}
	}
}

// P9.1: Take: a command of each kind, and not a byte of what is behind it.
func TestTake(t *testing.T) {
	for in, want := range texts() {
		for _, tail := range []string{"", "\x00", "\xfftail", in} {
			r := wire.Of(in + tail)
			if got := cmd.Take(r); got != want || r.Err() != api.OK || r.Left() != len(tail) {
				t.Errorf("% x: %+v, %v, %d left", in+tail, got, r.Err(), r.Left())
			}
		}
	}
}

// P9.1: Take: one behind the other, from one reader.
func TestTakeMany(t *testing.T) {
	var all []byte
	var want []api.Cmd
	for in, c := range texts() {
		all, want = append(all, in...), append(want, c)
	}
	r := wire.Of(string(all))
	for _, c := range want {
		if got := cmd.Take(r); got != c {
			t.Fatalf("%+v, not %+v: %v", got, c, r.Err())
		}
	}
	if r.End() != api.OK {
		t.Error(r.End())
	}
}

// taken: Take of in answers a zero one, and leaves that error to the reader.
func taken(t *testing.T, in string, want api.Errno) {
	t.Helper()
	r := wire.Of(in)
	if got := cmd.Take(r); got != (api.Cmd{}) || r.Err() != want || r.Left() != 0 {
		t.Errorf("% x: %+v, %v, not %v", in, got, r.Err(), want)
	}
	if got := cmd.Take(r); got != (api.Cmd{}) || r.Err() != want {
		t.Errorf("% x, again: %+v, %v, not %v", in, got, r.Err(), want)
	}
}

// P9.1: Take: bytes that are cut anywhere, of a command that may be, and of
// one that may not be, which shows only when all of it is read.
func TestTakeCut(t *testing.T) {
	for _, m := range []map[string]api.Cmd{texts(), bad()} {
		for in := range m {
			for n := range len(in) {
				taken(t, in[:n], api.ErrShort)
			}
		}
	}
}

// P9.1: Take: a command that may not be, and texts longer than may be, as
// soon as their length is read.
func TestTakeMayNot(t *testing.T) {
	for in := range bad() {
		for _, tail := range []string{"", "\x00", in} {
			taken(t, in+tail, api.ErrForm)
		}
	}
	for in := range long() {
		taken(t, in, api.ErrForm)
	}
	for _, head := range []string{
		"\x00\x01\x01\x11", "\x00\x01\x05\x11", "\x00\x01\x01\xf8\xf8", "\x00\x01\x01\xff\xff\xff\xff\xff\xff\xff\xff\xff",
		"\x00\x01\x04\x01a\x41", "\x00\x01\x01\x01a\x41", "\x00\x01\x04\x01a\xf9\x01\x00",
		"\x00\x01\x04\x01a\x00\x41", "\x00\x01\x01\x01a\x00\x41", "\x00\x01\x04\x01a\x00\xff\x80\x00\x00\x00\x00\x00\x00\x00",
	} {
		taken(t, head, api.ErrForm)
		taken(t, head+size(65)+"\x00\x00\x00", api.ErrForm)
	}
	for _, head := range []string{
		"\x00\x01\x05\x10", "\x00\x01\x01\x10", "\x00\x01\x01\x01a\x40", "\x00\x01\x01\x01a\x00\x40", // not longer than a command's may be
	} {
		taken(t, head, api.ErrShort)
	}
}

// P9.1: Take: a number, or a length, in another form than wire's, or one that
// no Seq can be.
func TestTakeForms(t *testing.T) {
	for _, in := range []string{
		"\x00\xf8\x01\x01\x01a\x00\x00\x00",
		"\x00\xf8\xf7\x01\x01a\x00\x00\x00",
		"\x00\xf9\x00\x01\x01\x01a\x00\x00\x00",
		"\x00\xff\x00\x00\x00\x00\x00\x00\x00\x01\x01\x01a\x00\x00\x00",
		"\x00\xfc\x01\x00\x00\x00\x00\x01\x01a\x00\x00\x00",               // 2^32
		"\x00\xfc\x01\x00\x00\x00\x01\x01\x01a\x00\x00\x00",               // 2^32 + 1: 1, if it went round
		"\x00\xff\xff\xff\xff\xff\xff\xff\xff\xff\x01\x01a\x00\x00\x00",   // the greatest number
		"\x00\xfc\x01\x00\x00\x00\x01",                                    // as soon as it is read
		"\x00\x01\x01\xf8\x01a\x00\x00\x00",                               // Key's length
		"\x00\x01\x01\x01a\xf8\x00\x00\x00",                               // Old's
		"\x00\x01\x01\x01a\x00\xf8\x00\x00",                               // New's
		"\x00\x01\x02\x01a\x00\xf9\x00\x01x\x00",                          // New's
		"\x00\x01\x04\x01a\xff\x00\x00\x00\x00\x00\x00\x00\x01x\x01x\x00", // Old's
		"\x09\xf8\x01", "\x00\x00\x09\xf8\x00", "\x00\x01\x01\x01a\x00\xf8\x00", // what is behind it doesn't matter
	} {
		taken(t, in, api.ErrForm)
	}
	taken(t, "\x00\xf9\x01", api.ErrShort)
	taken(t, "\x00\xf8", api.ErrShort)
	taken(t, "\x00\x01\x01\xf9\x00", api.ErrShort)
}

// P9.1: Take: a reader that failed ahead keeps its error; none at all.
func TestTakeFailed(t *testing.T) {
	for in := range texts() {
		r := wire.Of(in)
		r.Bad()
		if got := cmd.Take(r); got != (api.Cmd{}) || r.Err() != api.ErrForm {
			t.Errorf("behind ErrForm: %+v, %v", got, r.Err())
		}
	}
	r := wire.Of("\x02a")
	r.Str(9)
	if got := cmd.Take(r); got != (api.Cmd{}) || r.Err() != api.ErrShort {
		t.Errorf("behind ErrShort: %+v, %v", got, r.Err())
	}
	var none *wire.Reader
	if got := cmd.Take(none); got != (api.Cmd{}) || none.Err() != api.ErrNil {
		t.Errorf("no reader: %+v, %v", got, none.Err())
	}
}

// P9.1: Put and Take: any command comes back, or is told not to be one.
func TestPutTakeAll(t *testing.T) {
	product(func(c api.Cmd) {
		in := string(cmd.Put(nil, c))
		r := wire.Of(in)
		got := cmd.Take(r)
		if may(c) && (got != c || r.End() != api.OK) {
			t.Fatalf("%+v: %+v, %v", c, got, r.End())
		}
		if !may(c) && (got != (api.Cmd{}) || r.Err() != api.ErrForm) {
			t.Fatalf("%+v: %+v, %v", c, got, r.Err())
		}
	})
}
