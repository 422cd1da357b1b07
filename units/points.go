package units

import (
	"iter"
	"strings"
	"unicode/utf8"

	"lintel/api"
)

const (
	firstHigh = 0xD800  // the high surrogates begin here
	firstLow  = 0xDC00  // the low ones, right behind them
	pastLow   = 0xE000  // behind the surrogates
	firstPair = 0x10000 // the least code point of two units
	lowBits   = 10      // how many bits of a code point each surrogate holds
)

// Of: P1.1.
func Of(s string) (api.Str, int, api.Errno) {
	out := make([]byte, 0, 2*len(s))
	for at, r := range s {
		// A range tells bytes that are none as U+FFFD, which may also stand there itself.
		if r == utf8.RuneError && !strings.HasPrefix(s[at:], string(utf8.RuneError)) {
			return "", at, api.ErrUTF
		}
		out = appendPoint(out, r)
	}
	return api.Str(out), 0, api.OK
}

// Text: P1.2.
func Text(s api.Str) string {
	out := make([]byte, 0, Len(s))
	for _, r := range Points(s) {
		// AppendRune writes U+FFFD in place of a surrogate.
		out = utf8.AppendRune(out, r)
	}
	return string(out)
}

// Points: P1.8.
func Points(s api.Str) iter.Seq2[int, rune] {
	return func(yield func(int, rune) bool) {
		for i := 0; i < Len(s); {
			r, size := pointAt(s, i)
			if !yield(i, r) {
				return
			}
			i += size
		}
	}
}

// Point: P1.8.
func Point(r rune) api.Str {
	if r < 0 || r > utf8.MaxRune {
		return ""
	}
	return api.Str(appendPoint(nil, r))
}

// pointAt is the code point that begins at a place that there is, and how many units it has.
func pointAt(s api.Str, i int) (rune, int) {
	high := unit(s, i)
	low, _ := At(s, i+1) // behind the end 0, which is no low surrogate
	if !isHigh(high) || !isLow(low) {
		return rune(high), 1
	}
	return firstPair + rune(high-firstHigh)<<lowBits + rune(low-firstLow), 2
}

func isHigh(u uint16) bool { return firstHigh <= u && u < firstLow }

func isLow(u uint16) bool { return firstLow <= u && u < pastLow }

// appendPoint puts the one or two units of a number from 0 to 10FFFF behind out.
func appendPoint(out []byte, r rune) []byte {
	if r < firstPair {
		return appendUnit(out, uint16(r))
	}
	r -= firstPair
	out = appendUnit(out, firstHigh+uint16(r>>lowBits))
	return appendUnit(out, firstLow+uint16(r&(1<<lowBits-1)))
}
