package wire

import (
	"strings"

	"palaver/api"
)

// Reader goes through bytes.
type Reader struct {
	fault
	rest string
}

// Of answers a reader of the bytes of s.
func Of(s string) *Reader { return &Reader{rest: s} }

// Byte reads one byte.
func (r *Reader) Byte() byte {
	if s := r.take(1); s != "" {
		return s[0]
	}
	return 0
}

// Num reads a number.
func (r *Reader) Num() uint64 {
	lead := r.Byte()
	if lead < firstLong {
		return uint64(lead)
	}
	behind := r.take(int(lead - longLead))
	n := uint64(0)
	for i := range len(behind) {
		n = n<<8 | uint64(behind[i])
	}
	// Bytes that end too soon get past this: they are no number at all, not
	// one in too many bytes.
	if bytesBehind(n) != len(behind) {
		r.Bad()
		return 0
	}
	return n
}

// Below reads a number that must be below n.
func (r *Reader) Below(n uint64) uint64 { return below[uint64](r, n) }

// Str reads a text of at most so many bytes.
func (r *Reader) Str(most int) string {
	// One more than the greatest int is no int, but it is a uint64.
	n := below[int](r, uint64(max(most, 0))+1)
	// A copy, lest a short text that is kept hold all the bytes it stood in.
	return strings.Clone(r.take(n))
}

// Bad tells that what was read is bad.
func (r *Reader) Bad() {
	if r != nil {
		r.fail(api.ErrForm)
	}
}

// Left is how many bytes are not gone over.
func (r *Reader) Left() int {
	if r.Err() != api.OK {
		return 0
	}
	return len(r.rest)
}

// Err is the first error, or OK.
func (r *Reader) Err() api.Errno {
	if r == nil {
		return api.ErrNil
	}
	return r.held()
}

// End is the first error, bytes that are left being one.
func (r *Reader) End() api.Errno {
	if r.Left() > 0 {
		r.Bad()
	}
	return r.Err()
}

// take goes over n bytes, or, if so many are not left, over none.
func (r *Reader) take(n int) string {
	if r.Err() != api.OK {
		return ""
	}
	if n > len(r.rest) {
		r.fail(api.ErrShort)
		return ""
	}
	s := r.rest[:n]
	r.rest = r.rest[n:]
	return s
}

// below reads a number below n, as the kind of number that it is wanted as; n
// less one must be one of these.
func below[T int | uint64](r *Reader, n uint64) T {
	x := r.Num()
	if x >= n {
		r.Bad()
		return 0
	}
	return T(x)
}
