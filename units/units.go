// Package units is layer 1: texts as units of 16 bits. See shared/doc/01-units.md.
package units

import (
	"strings"

	"lintel/api"
)

// Make: P1.3.
func Make(l []uint16) api.Str {
	out := make([]byte, 0, 2*len(l))
	for _, u := range l {
		out = appendUnit(out, u)
	}
	return api.Str(out)
}

// Units: P1.3.
func Units(s api.Str) []uint16 {
	out := make([]uint16, Len(s))
	for i := range out {
		out[i] = unit(s, i)
	}
	return out
}

// Len: P1.3.
func Len(s api.Str) int { return len(s) / 2 }

// At: P1.4.
func At(s api.Str, i int) (uint16, bool) {
	if i < 0 || i >= Len(s) {
		return 0, false
	}
	return unit(s, i), true
}

// Cut: P1.4.
func Cut(s api.Str, from, to int) api.Str {
	from, to = max(from, 0), min(to, Len(s))
	if to <= from {
		return ""
	}
	// A piece of s would share its memory, and keep all of it alive.
	return api.Str(strings.Clone(string(piece(s, from, to))))
}

// Join: P1.5.
func Join(l ...api.Str) (api.Str, api.Errno) {
	total := 0
	for _, s := range l {
		total += Len(s)
		if total > api.MaxStr {
			return "", api.ErrLong
		}
	}
	out := make([]byte, 0, 2*total)
	for _, s := range l {
		out = append(out, even(s)...)
	}
	return api.Str(out), api.OK
}

// Compare: P1.7.
func Compare(a, b api.Str) int {
	// The high byte stands ahead, so the bytes are in the units' order.
	return strings.Compare(string(even(a)), string(even(b)))
}

// even is s without the odd byte at its end, which never counts.
func even(s api.Str) api.Str { return piece(s, 0, Len(s)) }

// piece is the units of s from from up to to, of places that there are; it shares memory with s.
func piece(s api.Str, from, to int) api.Str { return s[2*from : 2*to] }

// unit is the unit at a place that there is.
func unit(s api.Str, i int) uint16 { return uint16(s[2*i])<<8 | uint16(s[2*i+1]) }

func appendUnit(out []byte, u uint16) []byte { return append(out, byte(u>>8), byte(u)) }
