package digits

import (
	"math"
	"math/bits"
	"strconv"
	"strings"
)

const (
	maxWords = 1024 / 64 // a number of more words is beyond the greatest float
	farAbove = 310       // 0.1 times 10 to that rounds to infinity
	farBelow = -330      // 10 to that rounds to 0
	farPower = 1 << 40   // a power of ten that no number of digits makes up for
)

// value is the float nearest to a number without a sign, all of whose bytes are known to be it.
func value(s string) float64 {
	if base := letterBase(s); base > 0 {
		return nearest(s[2:], base)
	}
	return decimalValue(s)
}

// decimalValue is value of a decimal number. Where its point stands is counted here: strconv takes a
// power of more than four digits for one that is far off, whatever noughts stand on the other side.
func decimalValue(s string) float64 {
	mantissa, power := s, int64(0)
	if e := strings.IndexAny(s, "eE"); e >= 0 {
		mantissa, power = s[:e], powerOf(s[e+1:])
	}
	whole, fraction, _ := strings.Cut(mantissa, ".")
	digits := strings.TrimLeft(whole+fraction, "0")
	point := int64(len(digits)-len(fraction)) + power
	switch {
	case digits == "" || point < farBelow:
		return 0
	case point > farAbove:
		return math.Inf(1)
	}
	x, _ := strconv.ParseFloat("0."+digits+"e"+strconv.FormatInt(point, 10), 64)
	return x
}

// powerOf is a power of ten, brought within farPower.
func powerOf(s string) int64 {
	s, minus := unsigned(s)
	worth := worthTo(10)
	n := int64(0)
	for i := range len(s) {
		n = min(10*n+int64(worth(s[i])), farPower)
	}
	if minus {
		return -n
	}
	return n
}

// nearest is the float nearest to the whole number of these digits to a base, of two the even one.
func nearest(digits string, base int) float64 {
	worth := worthTo(base)
	var words []uint64 // of the number without rounding, the lowest ahead
	for i := range len(digits) {
		words = timesPlus(words, uint64(base), uint64(worth(digits[i])))
		if len(words) > maxWords {
			return math.Inf(1)
		}
	}
	return rounded(words)
}

// timesPlus is words times by, and plus more, in their place, with a word more if it must be.
func timesPlus(words []uint64, by, more uint64) []uint64 {
	for i, w := range words {
		high, low := bits.Mul64(w, by)
		sum, carry := bits.Add64(low, more, 0)
		words[i], more = sum, high+carry
	}
	if more == 0 {
		return words
	}
	return append(words, more)
}

// rounded is the float nearest to a number by its words, the highest of which is not 0.
func rounded(words []uint64) float64 {
	if len(words) == 0 {
		return 0
	}
	last := len(words) - 1
	shift := bits.LeadingZeros64(words[last])
	top := words[last] << shift
	if last > 0 {
		top |= words[last-1] >> (64 - shift)
		top |= oneIfAny(words[last-1] << shift)
	}
	for _, w := range words[:max(last-1, 0)] {
		top |= oneIfAny(w)
	}
	return math.Ldexp(float64(top), 64*last-shift)
}

// oneIfAny is 1, if a bit of w is 1. All that lies below the 64 highest bits counts as a lowest one: it only
// tells on which side of the middle between two floats the number is.
func oneIfAny(w uint64) uint64 { return min(w, 1) }
