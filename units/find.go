package units

import (
	"iter"

	"lintel/api"
)

// Find: P1.6.
func Find(s, t api.Str, from int) int {
	from = max(from, 0)
	if Len(t) == 0 {
		return min(from, Len(s))
	}
	for i := range places(s, t, from) {
		return i
	}
	return -1
}

// Last: P1.6.
func Last(s, t api.Str, from int) int {
	from = min(from, Len(s)-Len(t))
	if from < 0 {
		return -1
	}
	if Len(t) == 0 {
		return from
	}
	last := -1
	for i := range places(piece(s, 0, from+Len(t)), t, 0) {
		last = i
	}
	return last
}

// places tells, in order, where in s, not below from, t stands, which is not empty. No unit of s is
// gone back to, so that texts which nearly repeat themselves take no longer than others.
func places(s, t api.Str, from int) iter.Seq[int] {
	return func(yield func(int) bool) {
		if Len(t) > Len(s)-from {
			return
		}
		again := borders(t)
		met := 0
		for i := from; i < Len(s); i++ {
			met = goOn(t, again, met, unit(s, i))
			if met < Len(t) {
				continue
			}
			if !yield(i + 1 - met) {
				return
			}
			met = again[met]
		}
	}
}

// borders says, for each number n of t's first units, how many of them, fewer than n, the last of
// these n repeat at most.
func borders(t api.Str) []int {
	again := make([]int, Len(t)+1)
	met := 0
	for i := 1; i < Len(t); i++ {
		met = goOn(t, again, met, unit(t, i))
		again[i+1] = met
	}
	return again
}

// goOn is how many of t's first units end with u, if met of them stand right ahead of it.
func goOn(t api.Str, again []int, met int, u uint16) int {
	for met > 0 && unit(t, met) != u {
		met = again[met]
	}
	if unit(t, met) == u {
		met++
	}
	return met
}
