// Package word is layer 1: see shared/doc/01-word.md.
package word

import "budwood/api"

const (
	wordBits  = 32
	digitBits = 4
	hexLength = wordBits / digitBits
	digits    = "0123456789abcdef"
)

// Bits tells a part of a word.
func Bits(w uint32, at, n int) uint32 {
	if !mayBe(at, n) {
		return 0
	}
	return w >> at & lowest(n)
}

// With puts a part into a word.
func With(w uint32, at, n int, v uint32) uint32 {
	if !mayBe(at, n) {
		return w
	}
	part := lowest(n) << at
	return w&^part | v<<at&part
}

// Signed tells bits as a number with a sign.
func Signed(v uint32, n int) int32 {
	if !isWidth(n) {
		return 0
	}
	above := wordBits - n
	// A shift of a number with a sign spreads its highest bit, so the part stands at the top first.
	return int32(v<<above) >> above
}

// Fits tells whether a number has so few bits.
func Fits(v int64, n int) bool {
	if !isWidth(n) {
		return false
	}
	bound := int64(1) << (n - 1)
	return -bound <= v && v < bound
}

// Cut tells a number's lowest bits.
func Cut(v int32, n int) uint32 {
	return uint32(v) & lowest(min(max(n, 0), wordBits))
}

// Hex tells a word as digits.
func Hex(w uint32) string {
	var text [hexLength]byte
	for i := range hexLength {
		text[hexLength-1-i] = digits[Bits(w, digitBits*i, digitBits)]
	}
	return string(text[:])
}

// Parse reads a word's digits.
func Parse(s string) (uint32, api.Errno) {
	if len(s) != hexLength {
		return 0, api.ErrForm
	}
	w := uint32(0)
	for i := range hexLength {
		d, ok := digit(s[i])
		if !ok {
			return 0, api.ErrForm
		}
		w = w<<digitBits | d
	}
	return w, api.OK
}

// mayBe tells whether a part may be; at is held against what n leaves, because at and n added up may wrap round.
func mayBe(at, n int) bool {
	return at >= 0 && n >= 0 && n <= wordBits && at <= wordBits-n
}

// isWidth tells whether a number with a sign may have n bits.
func isWidth(n int) bool {
	return n >= 1 && n <= wordBits
}

// lowest tells the word whose lowest n bits are set; n is from 0 to 32. At 32 the shift leaves 0, which 1 less wraps round to all bits.
func lowest(n int) uint32 {
	return uint32(1)<<n - 1
}

// digit tells the number of a digit.
func digit(c byte) (uint32, bool) {
	for i := range len(digits) {
		if digits[i] == c {
			return uint32(i), true
		}
	}
	return 0, false
}
