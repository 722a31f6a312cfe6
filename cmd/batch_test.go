package cmd_test

import (
	"math/rand"
	"slices"
	"strings"
	"testing"

	"palaver/api"
	"palaver/cmd"
)

// rows are batches: of none, of each command of sample and texts, and of more
// of them, also of the same one.
func rows() [][]api.Cmd {
	var one []api.Cmd
	for _, kind := range []uint8{api.Get, api.Put, api.Del, api.Cas, api.Members} {
		one = append(one, sample()[kind])
	}
	one = append(one,
		api.Cmd{Client: 1, Seq: 248, Kind: api.Members, Set: 255},
		api.Cmd{Client: 3, Seq: 5, Kind: api.Cas, Key: size(16), Old: size(64), New: size(64)},
		api.Cmd{Client: 2, Seq: 1, Kind: api.Put, Key: "\x00"},
	)
	l := [][]api.Cmd{nil}
	for i, a := range one {
		b, c := one[(i+1)%len(one)], one[(i+3)%len(one)]
		l = append(l, []api.Cmd{a}, []api.Cmd{a, a}, []api.Cmd{a, b}, []api.Cmd{b, c, a}, []api.Cmd{a, b, c, b}, []api.Cmd{a, a, a, a})
	}
	return l
}

// bytesOf is a batch's bytes, by the chapter's words.
func bytesOf(l []api.Cmd) string {
	if len(l) == 0 {
		return ""
	}
	b := []byte{byte(len(l))}
	for _, c := range l {
		b = cmd.Put(b, c)
	}
	return string(b)
}

// batchOf is a batch's bytes, as Batch tells them.
func batchOf(t *testing.T, l []api.Cmd) string {
	t.Helper()
	s, e := cmd.Batch(l...)
	if e != api.OK || s != bytesOf(l) {
		t.Fatalf("Batch(%+v): % x, %v", l, s, e)
	}
	return s
}

// P9.2: Batch: of no commands, of up to MaxBatch, of the same one more often.
func TestBatch(t *testing.T) {
	for _, l := range rows() {
		batchOf(t, l)
	}
	if s, e := cmd.Batch([]api.Cmd{}...); s != "" || e != api.OK {
		t.Errorf("an empty list: % x, %v", s, e)
	}
	a, b := sample()[api.Members], sample()[api.Put]
	if s := batchOf(t, []api.Cmd{a, b}); s != "\x02\x00\xfb\xff\xff\xff\xff\x05\x00\x00\x00\x07\x01\x02\x02\x01a\x00\x01x\x00" {
		t.Errorf("two: % x", s)
	}
	if s := batchOf(t, []api.Cmd{b, b, b, b}); s != "\x04"+strings.Repeat("\x01\x02\x02\x01a\x00\x01x\x00", 4) {
		t.Errorf("four: % x", s)
	}
}

// P9.2: Batch: of more than MaxBatch commands, and of one that may not be, at
// each place among others.
func TestBatchBad(t *testing.T) {
	a := sample()[api.Cas]
	for _, n := range []int{api.MaxBatch + 1, api.MaxBatch + 2, 255, 256, 257, 260, 1 << 16} {
		if s, e := cmd.Batch(slices.Repeat([]api.Cmd{a}, n)...); s != "" || e != api.ErrArg {
			t.Errorf("%d commands: % x, %v", n, s, e)
		}
	}
	for _, m := range []map[string]api.Cmd{bad(), long()} {
		for _, c := range m {
			for n := 1; n <= api.MaxBatch+1; n++ {
				for at := range n {
					l := slices.Repeat([]api.Cmd{a}, n)
					l[at] = c
					if s, e := cmd.Batch(l...); s != "" || e != api.ErrArg {
						t.Errorf("%+v, %d of %d: % x, %v", c, at, n, s, e)
					}
				}
			}
		}
	}
}

// P9.2 (R3): what Batch is handed stays as it was, with the room behind its end.
func TestBatchMemory(t *testing.T) {
	for _, l := range rows() {
		room := slices.Concat(l, []api.Cmd{{Client: 9}, {Client: 10}, {Client: 11}, {Client: 12}})
		was := slices.Clone(room)
		s, e := cmd.Batch(room[:len(l)]...)
		if s != bytesOf(l) || e != api.OK || !slices.Equal(room, was) {
			t.Errorf("%+v: % x, %v; %+v", l, s, e, room)
		}
		if s, e := cmd.Batch(room[:len(l)+1]...); s != "" || e != api.ErrArg || !slices.Equal(room, was) {
			t.Errorf("%+v, and a bad one: % x, %v; %+v", l, s, e, room)
		}
	}
}

// parsed: Parse answers just that.
func parsed(t *testing.T, value string, want []api.Cmd, wantE api.Errno) {
	t.Helper()
	if l, e := cmd.Parse(value); !slices.Equal(l, want) || e != wantE {
		t.Errorf("Parse(% x): %+v, %v, not %+v, %v", value, l, e, want, wantE)
	}
}

// P9.2: Parse: a batch's commands, in their order.
func TestParse(t *testing.T) {
	for _, l := range rows() {
		parsed(t, bytesOf(l), l, api.OK)
	}
	for in, c := range texts() {
		parsed(t, "\x01"+in, []api.Cmd{c}, api.OK)
		parsed(t, "\x04"+in+in+in+in, []api.Cmd{c, c, c, c}, api.OK)
	}
}

// P9.2: Parse: a count that no batch has, as soon as it is read.
func TestParseCount(t *testing.T) {
	one := bytesOf([]api.Cmd{sample()[api.Put]})[1:]
	for n := range 256 {
		if n >= 1 && n <= api.MaxBatch {
			continue
		}
		head := string([]byte{byte(n)})
		for _, tail := range []string{"", "\x00", one, strings.Repeat(one, 5), strings.Repeat(one, n), "\x09"} {
			parsed(t, head+tail, nil, api.ErrForm)
		}
	}
}

// P9.2: Parse: fewer commands than it says, bytes that are left, more commands
// than it says.
func TestParseEnd(t *testing.T) {
	for _, l := range rows()[1:] {
		in := bytesOf(l)
		for n := len(l) + 1; n <= api.MaxBatch; n++ {
			parsed(t, string([]byte{byte(n)})+in[1:], nil, api.ErrShort)
		}
		for n := 1; n < len(l); n++ {
			parsed(t, string([]byte{byte(n)})+in[1:], nil, api.ErrForm)
		}
		for _, tail := range []string{"\x00", "\xff", "tail", in, in[1:]} {
			parsed(t, in+tail, nil, api.ErrForm)
		}
	}
}

// P9.2: Parse: each batch's bytes cut at every place; of no bytes it is none.
func TestParseCut(t *testing.T) {
	parsed(t, "", nil, api.OK)
	for _, l := range rows() {
		in := bytesOf(l)
		for n := 1; n < len(in); n++ {
			parsed(t, in[:n], nil, api.ErrShort)
		}
	}
}

// P9.2: Parse: one that may not be, at each place among others, is told ahead
// of what is wrong behind it, and behind what is wrong ahead of it.
func TestParseBad(t *testing.T) {
	good := string(cmd.Put(nil, sample()[api.Cas]))
	for _, m := range []map[string]api.Cmd{bad(), long()} {
		for in := range m {
			for n := 1; n <= api.MaxBatch; n++ {
				head := string([]byte{byte(n)})
				for at := range n {
					ahead := head + strings.Repeat(good, at) + in
					parsed(t, ahead+strings.Repeat(good, n-at-1), nil, api.ErrForm)
					parsed(t, ahead, nil, api.ErrForm)
					parsed(t, ahead+"\x00", nil, api.ErrForm)
				}
			}
		}
	}
	parsed(t, "\x02"+good+"\x00\x00\x01\x01a\x00\x00", nil, api.ErrShort)
	parsed(t, "\x02"+good+"\x00\xf8\x01", nil, api.ErrForm)
}

// P9.2 (R3): what Parse answers is new memory, spare room too.
func TestParseMemory(t *testing.T) {
	for _, want := range rows() {
		in := bytesOf(want)
		one, _ := cmd.Parse(in)
		two, _ := cmd.Parse(in)
		one = one[:cap(one)]
		for i := range one {
			one[i] = api.Cmd{Client: 9, Key: "spoilt"}
		}
		three, e := cmd.Parse(in)
		if !slices.Equal(two, want) || !slices.Equal(three, want) || e != api.OK {
			t.Errorf("%+v: %+v, %+v, %v", want, two, three, e)
		}
	}
}

// P9.3: what was put together is parsed, whichever commands.
func TestThereAndBack(t *testing.T) {
	for _, l := range rows() {
		parsed(t, batchOf(t, l), l, api.OK)
	}
	var l []api.Cmd
	product(func(c api.Cmd) {
		if !may(c) {
			return
		}
		if l = append(l, c); len(l) > api.MaxBatch {
			l = l[1:]
		}
		parsed(t, batchOf(t, l), l, api.OK)
	})
}

// P9.3: bytes that are parsed are put together as themselves: each of these
// has a byte, or more, that is not a batch's any more, or is another one's.
func TestBackAndThere(t *testing.T) {
	back := func(in string) bool {
		l, e := cmd.Parse(in)
		if e != api.OK {
			if len(l) != 0 {
				t.Fatalf("% x: %+v beside %v", in, l, e)
			}
			return false
		}
		if s := batchOf(t, l); s != in {
			t.Fatalf("% x: % x", in, s)
		}
		return true
	}
	again := 0
	for _, l := range rows() {
		in := []byte(bytesOf(l))
		for i := range in {
			was := in[i]
			for x := range 256 {
				in[i] = byte(x)
				if back(string(in)) {
					again++
				}
			}
			in[i] = was
		}
	}
	rnd := rand.New(rand.NewSource(9))
	for range 200000 {
		in := make([]byte, 1+rnd.Intn(20))
		for i := range in {
			in[i] = byte(rnd.Intn(6))
			if rnd.Intn(20) == 0 {
				in[i] = byte(248 + rnd.Intn(8))
			}
		}
		if back(string(in)) {
			again++
		}
	}
	if again < 10000 {
		t.Errorf("only %d of them are batches", again)
	}
}

// P9.3: two batches that differ in one field, or in their order, have other
// bytes; the same ones have the same.
func TestApart(t *testing.T) {
	base := api.Cmd{Client: 1, Seq: 2, Kind: api.Cas, Key: "k", Old: "o", New: "n"}
	other := []api.Cmd{
		with(base, func(c *api.Cmd) { c.Client = 2 }),
		with(base, func(c *api.Cmd) { c.Seq = 3 }),
		with(base, func(c *api.Cmd) { c.Seq = 258 }),
		with(base, func(c *api.Cmd) { c.Key = "K" }),
		with(base, func(c *api.Cmd) { c.Old = "n" }),
		with(base, func(c *api.Cmd) { c.New = "o" }),
		with(base, func(c *api.Cmd) { c.Old = "" }),
		with(base, func(c *api.Cmd) { c.Key, c.Old = "ko", "" }),
		with(base, func(c *api.Cmd) { c.Old, c.New = "on", "" }),
		with(base, func(c *api.Cmd) { c.Old, c.New = "n", "o" }),
		{Client: 1, Seq: 2, Kind: api.Put, Key: "k"},
		{Client: 1, Seq: 2, Kind: api.Get, Key: "k"},
		{Client: 1, Seq: 2, Kind: api.Del, Key: "k"},
		{Client: 1, Seq: 2, Kind: api.Members, Set: 1},
		{Client: 1, Seq: 2, Kind: api.Members, Set: 2},
	}
	all := append(rows(), []api.Cmd{base})
	for _, c := range other {
		all = append(all, []api.Cmd{c}, []api.Cmd{base, c}, []api.Cmd{c, base}, []api.Cmd{c, base, base}, []api.Cmd{base, c, base}, []api.Cmd{base, base, c})
	}
	for _, a := range all {
		for _, b := range all {
			if same := batchOf(t, a) == batchOf(t, b); same != slices.Equal(a, b) {
				t.Errorf("%+v and %+v: %v", a, b, same)
			}
		}
	}
}
