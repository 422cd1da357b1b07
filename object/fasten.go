package object

import (
	"iter"

	"lintel/api"
	"lintel/heap"
)

// fastening is which flags an object's properties have no more when it is sealed or frozen.
type fastening struct{ ofAll, ofValues int }

func sealing() fastening { return fastening{ofAll: api.Configurable} }

func freezing() fastening { return fastening{ofAll: api.Configurable, ofValues: api.Writable} }

// left is which flags of p are left.
func (f fastening) left(p api.Prop) int {
	if isAccessor(p) {
		return p.Flags &^ f.ofAll
	}
	return p.Flags &^ (f.ofAll | f.ofValues)
}

func (f fastening) do(h *heap.Heap, o int) api.Errno {
	if e := h.Shut(o); e != api.OK {
		return e
	}
	for k, p := range own(h, o) {
		if left := f.left(p); left != p.Flags {
			p.Flags = left
			h.Put(o, k, p) // the key is there, so that it takes no room
		}
	}
	return api.OK
}

func (f fastening) isDone(h *heap.Heap, o int) bool {
	if !h.Has(o) || h.Open(o) {
		return false
	}
	for _, p := range own(h, o) {
		if f.left(p) != p.Flags {
			return false
		}
	}
	return true
}

// own tells o's own properties.
func own(h *heap.Heap, o int) iter.Seq2[api.Key, api.Prop] {
	return func(yield func(api.Key, api.Prop) bool) {
		for _, k := range h.Keys(o) {
			if p, is := h.Own(o, k); is && !yield(k, p) {
				return
			}
		}
	}
}

// Seal: P16.5.
func Seal(h *heap.Heap, o int) api.Errno { return sealing().do(h, o) }

// Freeze: P16.5.
func Freeze(h *heap.Heap, o int) api.Errno { return freezing().do(h, o) }

// Sealed: P16.5.
func Sealed(h *heap.Heap, o int) bool { return sealing().isDone(h, o) }

// Frozen: P16.5.
func Frozen(h *heap.Heap, o int) bool { return freezing().isDone(h, o) }
