package wire

import "palaver/api"

// fault is the first error that there was. A later one hangs on bytes that
// were misread already, so it would tell nothing.
type fault struct {
	first api.Errno
}

func (f *fault) fail(e api.Errno) {
	if f.first == api.OK {
		f.first = e
	}
}

func (f *fault) held() api.Errno { return f.first }
