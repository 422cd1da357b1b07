package check

import (
	"cmp"
	"slices"

	"lintel/api"
)

// triesAreThere says whether each try has instructions, a place to go on at and a register.
func (c *checker) triesAreThere() bool {
	for _, t := range c.fn.Tries {
		if t.From < 0 || t.From >= t.To || t.To > len(c.fn.Code) || !c.target(t.At) || !c.register(t.Reg) {
			return false
		}
	}
	return true
}

// nested says whether of tries each two are apart, or the earlier lies within the later. They are gone through by their places,
// with those about the place kept: a try needs to be held against the innermost of these alone.
func nested(l []api.Try) bool {
	var about []int
	for _, n := range byPlace(l) {
		for len(about) > 0 && l[about[len(about)-1]].To <= l[n].From {
			about = about[:len(about)-1]
		}
		if len(about) > 0 {
			inner := about[len(about)-1]
			if l[n].To > l[inner].To || n > inner {
				return false
			}
		}
		about = append(about, n)
	}
	return true
}

// byPlace is the tries' numbers in the order in which they begin, the longer ahead, and of those that are alike the later ahead.
func byPlace(l []api.Try) []int {
	order := make([]int, len(l))
	for n := range order {
		order[n] = n
	}
	slices.SortFunc(order, func(a, b int) int {
		return cmp.Or(cmp.Compare(l[a].From, l[b].From), cmp.Compare(l[b].To, l[a].To), cmp.Compare(b, a))
	})
	return order
}
