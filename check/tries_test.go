package check_test

import (
	"math"
	"testing"

	"lintel/api"
)

// tried is a module of a script of so many instructions, with 2 registers, and tries.
func tried(n int, l ...api.Try) api.Module {
	f := api.Fn{Regs: 2, Tries: l}
	for range n {
		f.Code = append(f.Code, end)
	}
	return api.Module{Fns: []api.Fn{f}}
}

// P12.1: a try's numbers.
func TestTry(t *testing.T) {
	for _, x := range []api.Try{{From: 0, To: 1}, {From: 0, To: 4, At: 3, Reg: 1}, {From: 3, To: 4, At: 3}, {From: 1, To: 2, At: 1}} {
		taken(t, "a try", tried(4, x))
	}
	for _, x := range []api.Try{
		{}, {From: 1, To: 1}, {From: 2, To: 1}, {From: 3, To: 0}, {From: -1, To: 2}, {From: math.MinInt, To: 1}, {From: -2, To: -1},
		{From: 0, To: 5}, {From: 4, To: 5}, {From: 4, To: 4}, {From: 0, To: math.MaxInt}, {From: 0, To: math.MinInt}, {From: math.MaxInt, To: math.MinInt},
		{From: 0, To: 1, At: 4}, {From: 0, To: 1, At: -1}, {From: 0, To: 1, At: math.MaxInt}, {From: 0, To: 1, At: math.MinInt},
		{From: 0, To: 1, Reg: 2}, {From: 0, To: 1, Reg: -1}, {From: 0, To: 1, Reg: math.MaxInt}, {From: 0, To: 1, Reg: math.MinInt},
	} {
		refused(t, "no try", tried(4, x), 0, 4)
		refused(t, "no try ahead", tried(4, x, api.Try{To: 4}), 0, 4)
		refused(t, "no try behind", tried(4, api.Try{To: 4}, x), 0, 4)
	}
}

// span is a try of instructions.
func span(from, to int) api.Try { return api.Try{From: from, To: to} }

// P12.1: two tries are apart, or the earlier lies within the later.
func TestTwoTries(t *testing.T) {
	for _, l := range [][]api.Try{
		{span(0, 2), span(2, 4)}, {span(2, 4), span(0, 2)}, {span(0, 1), span(5, 6)}, {span(1, 2), span(0, 3)}, {span(0, 2), span(0, 3)},
		{span(1, 3), span(0, 3)}, {span(0, 3), span(0, 3)}, {span(1, 2), span(3, 4), span(0, 5)}, {span(1, 2), span(1, 2), span(1, 2)},
		{span(2, 3), span(1, 4), span(0, 6)}, {span(5, 6), span(2, 3), span(0, 4)}, {span(5, 6), span(0, 1), span(4, 6), span(0, 2), span(0, 6)},
	} {
		taken(t, "tries", tried(6, l...))
	}
	for _, l := range [][]api.Try{
		{span(0, 3), span(1, 2)}, {span(0, 3), span(0, 2)}, {span(0, 3), span(1, 3)}, {span(0, 2), span(1, 3)}, {span(1, 3), span(0, 2)},
		{span(0, 3), span(2, 5)}, {span(1, 2), span(0, 5), span(3, 4)}, {span(0, 6), span(2, 3), span(1, 4)}, {span(2, 3), span(1, 4), span(3, 6)},
		{span(0, 1), span(2, 3), span(0, 3), span(2, 3)}, {span(1, 2), span(0, 3), span(1, 2)}, {span(0, 4), span(4, 6), span(3, 5)},
	} {
		refused(t, "tries", tried(6, l...), 0, 6)
	}
}

// P12.1: all lists of three tries in a short function, against the document's words.
func TestThreeTries(t *testing.T) {
	const n = 4
	var all []api.Try
	for from := range n + 1 {
		for to := range n + 1 {
			all = append(all, span(from, to))
		}
	}
	for _, a := range all {
		for _, b := range all {
			for _, c := range all {
				m := tried(n, a, b, c)
				if right(m.Fns[0].Tries, n, 2) {
					taken(t, "three tries", m)
				} else {
					refused(t, "three tries", m, 0, n)
				}
			}
		}
	}
}

// P1, P12.1: many tries within one another, and beside each other.
func TestManyTries(t *testing.T) {
	const n = 200000
	var nest, row []api.Try
	for i := range n / 2 {
		nest = append(nest, span(n/2-1-i, n/2+1+i))
		row = append(row, span(2*i, 2*i+1))
	}
	taken(t, "within one another", tried(n, nest...))
	taken(t, "beside each other", tried(n, row...))
	taken(t, "both", tried(n, append(append([]api.Try{}, row[:n/4]...), nest[n/4:]...)...))
	nest[n/2-2], nest[n/2-1] = nest[n/2-1], nest[n/2-2]
	refused(t, "the outermost ahead", tried(n, nest...), 0, n)
	row[0].To = 3
	refused(t, "a longer one ahead", tried(n, row...), 0, n)
}
