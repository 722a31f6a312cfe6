package base

import (
	"iter"
	"strconv"
	"strings"

	"palaver/api"
	"palaver/disk"
	"palaver/frame"
	"palaver/wire"
)

const (
	letter = "b" // what a base file's name begins with
	digits = 16  // how many digits are behind it
	radix  = 16  // the base to which they are written
)

// How a base file is.
const (
	young  = iota // none of its bytes is synced
	good          // all are, and they are its frame
	spoilt        // it is neither
)

// files tells a disk's base files by their slots. (All names have as many
// digits, so the order of the names is theirs.)
func files(d *disk.Disk) iter.Seq2[uint64, disk.File] {
	return func(yield func(uint64, disk.File) bool) {
		for _, f := range d.Files() {
			if slot := slotOf(f.Name); slot != 0 && !yield(slot, f) {
				return
			}
		}
	}
}

// name is that of a slot's base file.
func name(slot uint64) string {
	s := strconv.FormatUint(slot, radix)
	return letter + strings.Repeat("0", digits-len(s)) + s
}

// slotOf is the slot of the base file whose name this is; 0, which is none's,
// if it is no base file's.
func slotOf(file string) uint64 {
	s, _ := strings.CutPrefix(file, letter)
	slot, err := strconv.ParseUint(s, radix, 64)
	// ParseUint takes great letters too, and any count of digits.
	if err != nil || name(slot) != file {
		return 0
	}
	return slot
}

// look tells how the base file of a slot is, and, if it is good, its text.
func look(slot uint64, f disk.File) (string, int) {
	if f.Synced == 0 {
		return "", young
	}
	inside, size, _ := frame.Take(f.Bytes)
	if f.Synced < len(f.Bytes) || size < len(f.Bytes) {
		return "", spoilt
	}
	r := wire.Of(inside)
	is, text := r.Num(), r.Str(api.MaxFrame)
	if r.End() != api.OK || is != slot {
		return "", spoilt
	}
	return text, good
}

// framed is the frame of a base.
func framed(slot uint64, text string) (string, api.Errno) {
	b, e := frame.Put(nil, string(wire.Str(wire.Num(nil, slot), text)))
	if e != api.OK {
		return "", e
	}
	return string(b), api.OK
}
