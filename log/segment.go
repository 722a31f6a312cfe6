package log

import (
	"strconv"
	"strings"

	"palaver/api"
	"palaver/disk"
	"palaver/frame"
)

const (
	letter   = "s"      // what a segment's name begins with
	digits   = 8        // how many digits are behind it
	greatest = 99999999 // the last number of so many digits
)

// segment is a file of a log, and its number.
type segment struct {
	disk.File
	number int
}

// segments are a disk's, by their numbers. (All names have as many digits, so
// the order of the names is theirs.)
func segments(d *disk.Disk) []segment {
	var l []segment
	for _, f := range d.Files() {
		if n := number(f.Name); n != 0 {
			l = append(l, segment{f, n})
		}
	}
	return l
}

// name is a segment's.
func name(number int) string {
	// One digit more, at the beginning, keeps the noughts behind it.
	return letter + strconv.Itoa(greatest + 1 + number)[1:]
}

// number is that of the segment whose name a file has; 0, which is no
// segment's, if the file is none.
func number(file string) int {
	s, ok := strings.CutPrefix(file, letter)
	if !ok || len(s) != digits {
		return 0
	}
	// ParseUint, unlike Atoi, takes no sign.
	n, err := strconv.ParseUint(s, 10, 32)
	if err != nil {
		return 0
	}
	return int(n)
}

// read answers the records of segments, and how many bytes of the last one are
// whole frames; or false, if the segments are spoilt.
func read(l []segment) ([]string, int, bool) {
	var records []string
	whole := 0
	for i, s := range l {
		if s.number != l[0].number+i || i < len(l)-1 && s.Synced < len(s.Bytes) {
			return nil, 0, false
		}
		synced, _, e := frame.Split(s.Bytes[:s.Synced])
		if e != api.OK {
			return nil, 0, false
		}
		// What is synced ends with a frame, so the next one begins there.
		behind, size, _ := frame.Split(s.Bytes[s.Synced:])
		records = append(records, synced...)
		records = append(records, behind...)
		whole = s.Synced + size
	}
	return records, whole, true
}
