package cmd_test

import (
	"math"
	"slices"
	"strings"
	"testing"

	"palaver/api"
	"palaver/cmd"
)

// size is a text of n bytes; none of them is a number's lead byte alone.
func size(n int) string { return strings.Repeat("s", n) }

// sample is one of each kind, as it may be.
func sample() map[uint8]api.Cmd {
	return map[uint8]api.Cmd{
		api.Get:     {Client: 0, Seq: 1, Kind: api.Get, Key: "a"},
		api.Put:     {Client: 1, Seq: 2, Kind: api.Put, Key: "a", New: "x"},
		api.Del:     {Client: 2, Seq: 247, Kind: api.Del, Key: "key"},
		api.Cas:     {Client: 3, Seq: 300, Kind: api.Cas, Key: "\x00\xff", Old: "old", New: "n\xf8"},
		api.Members: {Client: 0, Seq: math.MaxUint32, Kind: api.Members, Set: 7},
	}
}

// with is c, changed.
func with(c api.Cmd, change func(*api.Cmd)) api.Cmd {
	change(&c)
	return c
}

// may: the chapter's words, kind by kind.
func may(c api.Cmd) bool {
	if c.Client > 3 || c.Seq == 0 {
		return false
	}
	key := len(c.Key) >= 1 && len(c.Key) <= 16
	switch c.Kind {
	case 1, 3:
		return key && c.Old == "" && c.New == "" && c.Set == 0
	case 2:
		return key && c.Old == "" && len(c.New) <= 64 && c.Set == 0
	case 4:
		return key && len(c.Old) <= 64 && len(c.New) <= 64 && c.Set == 0
	case 5:
		return c.Key == "" && c.Old == "" && c.New == ""
	}
	return false
}

// product calls do with each of some hundred thousand commands, in each field
// of which there are the edges of what it may be.
func product(do func(api.Cmd)) {
	texts := []string{"", "a", size(16), size(17), size(64), size(65)}
	for _, client := range []uint8{0, 3, 4, 255} {
		for _, seq := range []uint32{0, 1, math.MaxUint32} {
			for _, kind := range []uint8{0, 1, 2, 3, 4, 5, 6, 7, 128, 255} {
				for _, key := range texts {
					for _, old := range texts {
						for _, value := range texts {
							for _, set := range []uint8{0, 1, 127, 128, 255} {
								do(api.Cmd{Client: client, Seq: seq, Kind: kind, Key: key, Old: old, New: value, Set: set})
							}
						}
					}
				}
			}
		}
	}
}

// The chapter's examples.
func TestExamples(t *testing.T) {
	if s, e := cmd.Batch(); s != "" || e != api.OK {
		t.Errorf("Batch(): % x, %v", s, e)
	}
	put := api.Cmd{Client: 1, Seq: 2, Kind: api.Put, Key: "a", New: "x"}
	if s, e := cmd.Batch(put); s != "\x01\x01\x02\x02\x01a\x00\x01x\x00" || e != api.OK {
		t.Errorf("Batch(Put a = x): % x, %v", s, e)
	}
	if l, e := cmd.Parse("\x00"); len(l) != 0 || e != api.ErrForm {
		t.Errorf("Parse(00): %v, %v", l, e)
	}
}

// P9.1: Check: each kind as it may be, with all that it may have, and with as
// little.
func TestCheckMay(t *testing.T) {
	key, value := size(api.MaxKey), size(api.MaxValue)
	for kind, c := range sample() {
		if e := cmd.Check(c); e != api.OK || c.Kind != kind {
			t.Errorf("%+v: %v", c, e)
		}
	}
	for _, c := range []api.Cmd{
		{Seq: 1, Kind: api.Get, Key: key},
		{Seq: 1, Kind: api.Put, Key: "a"},
		{Seq: 1, Kind: api.Put, Key: key, New: value},
		{Seq: 1, Kind: api.Del, Key: key},
		{Seq: 1, Kind: api.Cas, Key: "a"},
		{Seq: 1, Kind: api.Cas, Key: key, Old: value, New: value},
		{Seq: 1, Kind: api.Cas, Key: "a", Old: value},
		{Seq: 1, Kind: api.Cas, Key: "a", New: value},
		{Seq: 1, Kind: api.Members},
		{Seq: 1, Kind: api.Members, Set: 1},
		{Seq: 1, Kind: api.Members, Set: 128}, // of no node: what Set may be is the machine's to say
		{Seq: 1, Kind: api.Members, Set: 255},
	} {
		if e := cmd.Check(c); e != api.OK {
			t.Errorf("%+v: %v", c, e)
		}
	}
}

// P9.1: Check: clients, numbers and kinds, at the edges of what they may be.
func TestCheckName(t *testing.T) {
	for _, c := range sample() {
		for client, want := range map[uint8]api.Errno{0: api.OK, api.MaxClients - 1: api.OK, api.MaxClients: api.ErrArg, 16: api.ErrArg, 128: api.ErrArg, 255: api.ErrArg} {
			c := with(c, func(c *api.Cmd) { c.Client = client })
			if e := cmd.Check(c); e != want {
				t.Errorf("%+v: %v", c, e)
			}
		}
		for seq, want := range map[uint32]api.Errno{0: api.ErrArg, 1: api.OK, 1 << 31: api.OK, math.MaxUint32: api.OK} {
			c := with(c, func(c *api.Cmd) { c.Seq = seq })
			if e := cmd.Check(c); e != want {
				t.Errorf("%+v: %v", c, e)
			}
		}
		for _, kind := range []uint8{0, api.Members + 1, 7, 8, 128, 254, 255} {
			c := with(c, func(c *api.Cmd) { c.Kind = kind })
			if e := cmd.Check(c); e != api.ErrArg {
				t.Errorf("%+v: %v", c, e)
			}
		}
	}
	for kind := range math.MaxUint8 + 1 {
		for _, c := range []api.Cmd{{}, {Key: "a"}, {Set: 1}, {Key: "a", New: "x"}} {
			c.Seq, c.Kind = 1, uint8(kind)
			if e := cmd.Check(c); (e == api.OK) != may(c) || e != api.OK && e != api.ErrArg {
				t.Errorf("%+v: %v", c, e)
			}
		}
	}
	if e := cmd.Check(api.Cmd{}); e != api.ErrArg {
		t.Error("a zero one:", e)
	}
}

// P9.1: Check: a Key of no bytes, of 1, of MaxKey and one more; of Members one.
func TestCheckKey(t *testing.T) {
	for kind, c := range sample() {
		for n, want := range map[int]api.Errno{0: api.ErrArg, 1: api.OK, api.MaxKey: api.OK, api.MaxKey + 1: api.ErrArg, api.MaxValue: api.ErrArg, 256: api.ErrArg, 257: api.ErrArg, 1 << 16: api.ErrArg} {
			if kind == api.Members {
				want = api.ErrArg
				if n == 0 {
					want = api.OK
				}
			}
			c.Key = size(n)
			if e := cmd.Check(c); e != want {
				t.Errorf("kind %d, a key of %d bytes: %v", kind, n, e)
			}
		}
	}
}

// P9.1: Check: New and Old of each kind: of MaxValue bytes and one more, where
// it may be, and of one byte, where it may not.
func TestCheckValues(t *testing.T) {
	for kind, c := range sample() {
		for _, n := range []int{0, 1, api.MaxKey + 1, api.MaxValue, api.MaxValue + 1, 256, 257} {
			for name, one := range map[string]struct {
				c     api.Cmd
				kinds []uint8
			}{
				"New": {with(c, func(c *api.Cmd) { c.New = size(n) }), []uint8{api.Put, api.Cas}},
				"Old": {with(c, func(c *api.Cmd) { c.Old = size(n) }), []uint8{api.Cas}},
			} {
				want := api.ErrArg
				if n == 0 || slices.Contains(one.kinds, kind) && n <= api.MaxValue {
					want = api.OK
				}
				if e := cmd.Check(one.c); e != want {
					t.Errorf("kind %d, %s of %d bytes: %v", kind, name, n, e)
				}
			}
		}
	}
}

// P9.1: Check: a Set of each kind.
func TestCheckSet(t *testing.T) {
	for kind, c := range sample() {
		for set := range math.MaxUint8 + 1 {
			want := api.ErrArg
			if set == 0 || kind == api.Members {
				want = api.OK
			}
			c.Set = uint8(set)
			if e := cmd.Check(c); e != want {
				t.Errorf("kind %d, Set %d: %v", kind, set, e)
			}
		}
	}
}

// P9.1: Check: any fields together, against the chapter's words.
func TestCheckAll(t *testing.T) {
	product(func(c api.Cmd) {
		want := api.ErrArg
		if may(c) {
			want = api.OK
		}
		if e := cmd.Check(c); e != want {
			t.Fatalf("%+v: %v", c, e)
		}
	})
}
