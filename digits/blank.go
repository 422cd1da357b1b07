package digits

import (
	"lintel/api"
	"lintel/units"
)

// Blank: P3.6.
func Blank(u uint16) bool {
	switch u {
	case 32, 0xA0, 0x1680, 0x2028, 0x2029, 0x202F, 0x205F, 0x3000, 0xFEFF:
		return true
	}
	return 9 <= u && u <= 13 || 0x2000 <= u && u <= 0x200A
}

// Trim: P3.6.
func Trim(s api.Str) api.Str {
	to := units.Len(s)
	for blankAt(s, to-1) {
		to--
	}
	return units.Cut(s, blanksAhead(s), to)
}

// blanksAhead is how many blanks s begins with.
func blanksAhead(s api.Str) int {
	n := 0
	for blankAt(s, n) {
		n++
	}
	return n
}

// blankAt says whether a blank stands at a place, which there may not be.
func blankAt(s api.Str, i int) bool {
	u, there := units.At(s, i)
	return there && Blank(u)
}
