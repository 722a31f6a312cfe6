// Package wire is layer 1: see shared/doc/01-wire.md.
package wire

import "math/bits"

const (
	// firstLong is the least number that one byte does not hold by itself.
	firstLong = 248
	// longLead and a count of bytes (1 to 8) are a longer number's first byte.
	longLead = firstLong - 1
	// mostNum is how many bytes the longest number has.
	mostNum = 1 + 8
)

// Num answers b with n behind it.
func Num(b []byte, n uint64) []byte {
	return putNum(withRoom(b, mostNum), n)
}

// Str answers b with s behind it, its length first.
func Str(b []byte, s string) []byte {
	out := putNum(withRoom(b, mostNum+len(s)), uint64(len(s)))
	return append(out, s...)
}

// withRoom copies b: to append to b itself would write into room behind its
// end that is the caller's.
func withRoom(b []byte, more int) []byte {
	return append(make([]byte, 0, len(b)+more), b...)
}

func putNum(b []byte, n uint64) []byte {
	k := bytesBehind(n)
	if k == 0 {
		return append(b, byte(n))
	}
	b = append(b, byte(longLead+k))
	for i := k - 1; i >= 0; i-- {
		b = append(b, byte(n>>(8*i)))
	}
	return b
}

// bytesBehind is how many bytes a number has behind its first one.
func bytesBehind(n uint64) int {
	if n < firstLong {
		return 0
	}
	return (bits.Len64(n) + 7) / 8
}
