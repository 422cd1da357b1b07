package digits

import (
	"math"

	"lintel/api"
	"lintel/units"
)

// lettered is a base that is named by a small letter, with a 0 ahead of it.
type lettered struct {
	letter byte
	base   int
}

var byLetter = [3]lettered{{'x', 16}, {'o', 8}, {'b', 2}}

// Read: P3.3.
func Read(s api.Str) float64 {
	t := units.Text(Trim(s))
	if t == "" {
		return 0
	}
	if based(t) == len(t) {
		return value(t)
	}
	t, minus := unsigned(t)
	return signed(readUnsigned(t), minus)
}

// readUnsigned is the number of a whole text without blanks and a sign, to the base 10.
func readUnsigned(t string) float64 {
	switch {
	case t == "Infinity":
		return math.Inf(1)
	case t == "" || decimal(t) < len(t):
		return math.NaN()
	}
	return value(t)
}

// Literal: P3.4.
func Literal(s string) (float64, int, api.Errno) {
	size := max(based(s), decimal(s))
	if size == 0 || noughtAhead(s) || goesOn(s[size:]) {
		return 0, 0, api.ErrLiteral
	}
	return value(s[:size]), size, api.OK
}

// noughtAhead says whether a digit stands behind a first 0.
func noughtAhead(s string) bool { return digitsAhead(s, 10) > 1 && s[0] == '0' }

// goesOn says whether s begins with what may not stand right behind a literal. (A base's letter without
// a digit is such, too: it stands behind the literal 0.)
func goesOn(s string) bool {
	if s == "" {
		return false
	}
	return digitsAhead(s[:1], maxBase) > 0 || s[0] == '$' || s[0] == '_' || s[0] >= 128
}

// Whole: P3.5.
func Whole(s api.Str, base int) float64 {
	t, minus := unsigned(units.Text(units.Cut(s, blanksAhead(s), units.Len(s))))
	r := int(int32(base))
	if (r == 0 || r == 16) && letterBase(t) == 16 {
		t, r = t[2:], 16
	}
	if r == 0 {
		r = 10
	}
	if r < minBase || r > maxBase {
		return math.NaN()
	}
	n := digitsAhead(t, r)
	if n == 0 {
		return math.NaN()
	}
	return signed(nearest(t[:n], r), minus)
}

// unsigned is t without a sign ahead, and whether that is a minus.
func unsigned(t string) (string, bool) {
	if t == "" || t[0] != '+' && t[0] != '-' {
		return t, false
	}
	return t[1:], t[0] == '-'
}

func signed(x float64, minus bool) float64 {
	if minus {
		return -x
	}
	return x
}

// letterBase is the base that the 0 and the letter name with which s begins; 0: none.
func letterBase(s string) int {
	if len(s) < 2 || s[0] != '0' {
		return 0
	}
	for _, b := range byLetter {
		if s[1] == b.letter || s[1] == b.letter-'a'+'A' {
			return b.base
		}
	}
	return 0
}

// based is how many bytes the number with a base's letter has with which s begins; 0: there is none.
func based(s string) int {
	base := letterBase(s)
	if base == 0 {
		return 0
	}
	n := digitsAhead(s[2:], base)
	if n == 0 {
		return 0
	}
	return 2 + n
}

// decimal is how many bytes the longest decimal number has with which s begins; 0: there is none.
func decimal(s string) int {
	whole := digitsAhead(s, 10)
	fraction := pointAhead(s[whole:])
	if whole == 0 && fraction < 2 { // nothing, or a bare point
		return 0
	}
	size := whole + fraction
	return size + powerAhead(s[size:])
}

// pointAhead is how many bytes a point and the digits behind it have with which s begins.
func pointAhead(s string) int {
	if s == "" || s[0] != '.' {
		return 0
	}
	return 1 + digitsAhead(s[1:], 10)
}

// powerAhead is how many bytes an e, a sign or none, and digits have with which s begins; 0: they aren't all there.
func powerAhead(s string) int {
	if s == "" || s[0] != 'e' && s[0] != 'E' {
		return 0
	}
	t, _ := unsigned(s[1:])
	n := digitsAhead(t, 10)
	if n == 0 {
		return 0
	}
	return len(s) - len(t) + n
}

// digitsAhead is how many digits to a base s begins with.
func digitsAhead(s string, base int) int {
	worth := worthTo(base)
	n := 0
	for n < len(s) && worth(s[n]) >= 0 {
		n++
	}
	return n
}

// worthTo tells what a digit to a base is worth; below 0: it is none.
func worthTo(base int) func(byte) int {
	return func(c byte) int {
		worth := -1
		switch {
		case '0' <= c && c <= '9':
			worth = int(c - '0')
		case 'a' <= c && c <= 'z':
			worth = int(c-'a') + 10
		case 'A' <= c && c <= 'Z':
			worth = int(c-'A') + 10
		}
		if worth >= base {
			return -1
		}
		return worth
	}
}
