package array

import (
	"cmp"
	"slices"

	"lintel/heap"
	"lintel/keys"
)

// few numbers are tried one by one. Of more of them the object is asked which indices it has: a length may be far above how many there are.
const few = 1000

func has(h *heap.Heap, o int, i uint32) bool {
	_, is := h.Own(o, keys.Of(i))
	return is
}

// indices are those that o has, by number.
func indices(h *heap.Heap, o int) []uint32 {
	var out []uint32
	for _, k := range h.Keys(o) {
		i, is := indexOf(k)
		if !is {
			break // no index stands behind another key
		}
		out = append(out, i)
	}
	return out
}

// stretch is what of l, which is in order, is from low on and below past.
func stretch[T cmp.Ordered](l []T, low, past T) []T {
	from, _ := slices.BinarySearch(l, low)
	to, _ := slices.BinarySearch(l, past)
	return l[from:to]
}

// between are the indices that o has from low on and below past, by number.
func between(h *heap.Heap, o int, low, past uint32) []uint32 {
	if past-low > few {
		return stretch(indices(h, o), low, past)
	}
	var out []uint32
	for i := low; i < past; i++ {
		if has(h, o, i) {
			out = append(out, i)
		}
	}
	return out
}

// next is the least index that o has from low on and below past.
func next(h *heap.Heap, o int, low, past uint32) (uint32, bool) {
	near := low + min(few, past-low)
	for i := low; i < near; i++ {
		if has(h, o, i) {
			return i, true
		}
	}
	if near == past {
		return 0, false
	}
	if l := stretch(indices(h, o), near, past); len(l) > 0 {
		return l[0], true
	}
	return 0, false
}
