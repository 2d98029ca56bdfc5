// Package wire is layer 1: numbers, texts and frames in bytes, and out of them again. Each value has one form alone.
package wire

import (
	"cohort/api"
)

const (
	polynomial = 0xEDB88320 // of CRC-32, its bits turned round
	sumSize    = 4          // bytes of a sum in a frame
	numberSize = 10         // bytes of a number at most
)

// Sum is the CRC-32 (IEEE 802.3) of bytes.
func Sum(s string) uint32 {
	sum := ^uint32(0)
	for i := range len(s) {
		sum ^= uint32(s[i])
		for range 8 {
			low := sum & 1
			sum >>= 1
			if low == 1 {
				sum ^= polynomial
			}
		}
	}
	return ^sum
}

// Number is a number's bytes.
func Number(n uint64) string {
	return string(appendNumber(nil, n))
}

func appendNumber(b []byte, n uint64) []byte {
	for n >= 128 {
		b = append(b, byte(n)|128)
		n >>= 7
	}
	return append(b, byte(n))
}

// parseNumber is the number at the front of s, and how many bytes it has.
func parseNumber(s string) (uint64, int, api.Errno) {
	var n uint64
	for i := range numberSize {
		if i == len(s) {
			return 0, 0, api.ErrCut
		}
		b := s[i]
		n |= uint64(b&127) << (7 * i)
		if b > 127 {
			continue
		}
		// A last byte of 0 would be a longer form of the same number; the tenth has the one bit that is left of 64.
		if i > 0 && b == 0 || i == numberSize-1 && b > 1 {
			return 0, 0, api.ErrForm
		}
		return n, i + 1, api.OK
	}
	return 0, 0, api.ErrForm
}

// Fold is a signed number as one without sign, such that those near 0 stay small.
func Fold(n int64) uint64 {
	if n < 0 {
		// ^n is -n - 1, which has room even for the least number.
		return uint64(^n)<<1 | 1
	}
	return uint64(n) << 1
}

// Unfold is the signed number of one without sign.
func Unfold(n uint64) int64 {
	half := int64(n >> 1)
	if n&1 == 1 {
		return ^half
	}
	return half
}

// Frame is a text in bytes, its length ahead, and the sum of these bytes: the sum guards the length, too.
func Frame(s string) string {
	w := NewWriter()
	w.Text(s)
	text := w.All()
	return text + sumBytes(text)
}

// Unframe is the text of the frame that begins at a place, and the place behind the frame.
func Unframe(s string, at int) (string, int, api.Errno) {
	if at < 0 || at > len(s) {
		return "", 0, api.ErrArg
	}
	r := NewReader(s[at:])
	text := r.Text()
	end := at + r.At()
	sum := r.Bytes(sumSize)
	if e := r.Err(); e != api.OK {
		return "", 0, e
	}
	if sum != sumBytes(s[at:end]) {
		return "", 0, api.ErrForm
	}
	return text, end + sumSize, api.OK
}

func sumBytes(s string) string {
	sum := Sum(s)
	return string([]byte{byte(sum), byte(sum >> 8), byte(sum >> 16), byte(sum >> 24)})
}
