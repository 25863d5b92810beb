// Package sum is layer 1: sums of bytes (FNV-1a, of 64 bits). They are hints, by which bytes are found and spoilt ones are noticed; they prove nothing.
package sum

import "yankline/api"

const (
	begin  = 14695981039346656037 // the sum of no bytes
	prime  = 1099511628211
	digits = "0123456789abcdef"
	width  = 16 // digits of a sum's text
)

// Of is the sum of the bytes of s.
func Of(s string) uint64 { return More(begin, s) }

// More is the sum of the bytes of s behind a sum, so that what comes piece by piece need not be put together.
func More(sum uint64, s string) uint64 {
	// Over the length, not the text: a range over the text would tell runes, and the sum is of bytes.
	for i := range len(s) {
		sum ^= uint64(s[i])
		sum *= prime
	}
	return sum
}

// All is the sum of all the texts, one behind the other.
func All(l ...string) uint64 {
	sum := Of("")
	for _, s := range l {
		sum = More(sum, s)
	}
	return sum
}

// Text is the sum as sixteen hexadecimal digits, the highest first; always sixteen, so that each sum has one text.
func Text(sum uint64) string {
	var text [width]byte
	for i := range width {
		text[width-1-i] = digits[sum%16]
		sum /= 16
	}
	return string(text[:])
}

// Read is the sum whose text s is; ErrHex, if s is none's.
func Read(s string) (uint64, api.Errno) {
	if len(s) != width {
		return 0, api.ErrHex
	}
	var sum uint64
	for i := range width {
		d, ok := digit(s[i])
		if !ok {
			return 0, api.ErrHex
		}
		sum = sum<<4 | d
	}
	return sum, api.OK
}

// digit is what a hexadecimal digit stands for. Capital letters are none: a sum has one text.
func digit(c byte) (uint64, bool) {
	switch {
	case '0' <= c && c <= '9':
		return uint64(c - '0'), true
	case 'a' <= c && c <= 'f':
		return uint64(c-'a') + 10, true
	}
	return 0, false
}
