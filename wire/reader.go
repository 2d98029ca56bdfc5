package wire

import (
	"cohort/api"
)

// Reader goes through bytes, from the front, up to its first error.
type Reader struct {
	s   string
	at  int
	err api.Errno
}

// NewReader is a reader at the front.
func NewReader(s string) *Reader {
	return &Reader{s: s}
}

// Bytes is the next n bytes.
func (r *Reader) Bytes(n int) string {
	if r.Err() != api.OK {
		return ""
	}
	if n < 0 {
		r.err = api.ErrArg
		return ""
	}
	if n > r.Left() {
		r.err = api.ErrCut
		return ""
	}
	r.at += n
	return r.s[r.at-n : r.at]
}

// next is the number ahead and the place behind it. It does not go there, since a caller may still refuse the number.
func (r *Reader) next() (uint64, int, bool) {
	if r.Err() != api.OK {
		return 0, 0, false
	}
	n, size, e := parseNumber(r.s[r.at:])
	if e != api.OK {
		r.err = e
		return 0, 0, false
	}
	return n, r.at + size, true
}

// Number is the next number.
func (r *Reader) Number() uint64 {
	n, end, ok := r.next()
	if !ok {
		return 0
	}
	r.at = end
	return n
}

// Signed is the next signed number.
func (r *Reader) Signed() int64 {
	return Unfold(r.Number())
}

// Count is the next number, which may not be above most.
func (r *Reader) Count(most int) int {
	n, end, ok := r.next()
	if !ok {
		return 0
	}
	if most < 0 || n > uint64(most) {
		r.err = api.ErrMore
		return 0
	}
	r.at = end
	return int(n)
}

// Text is the next text.
func (r *Reader) Text() string {
	n, end, ok := r.next()
	if !ok {
		return ""
	}
	// A length may be as great as numbers are: it is held against what is left ahead of any sum with it.
	if n > uint64(len(r.s)-end) {
		r.err = api.ErrCut
		return ""
	}
	r.at = end + int(n)
	return r.s[end:r.at]
}

// Bool is the next number as yes or no.
func (r *Reader) Bool() bool {
	n, end, ok := r.next()
	if !ok {
		return false
	}
	if n > 1 {
		r.err = api.ErrForm
		return false
	}
	r.at = end
	return n == 1
}

// Fail lays an error, if there is none.
func (r *Reader) Fail(e api.Errno) {
	if r.Err() == api.OK {
		r.err = e
	}
}

// Err is the first error; a nil reader's is ErrArg.
func (r *Reader) Err() api.Errno {
	if r == nil {
		return api.ErrArg
	}
	return r.err
}

// At is how many bytes were taken, an error later on or not.
func (r *Reader) At() int {
	if r == nil {
		return 0
	}
	return r.at
}

// Left is how many bytes are left, behind those that were taken.
func (r *Reader) Left() int {
	if r == nil {
		return 0
	}
	return len(r.s) - r.at
}

// End is the error; bytes that are left are one.
func (r *Reader) End() api.Errno {
	if r.Left() > 0 {
		r.Fail(api.ErrMore)
	}
	return r.Err()
}
