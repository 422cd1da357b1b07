package array

import (
	"slices"

	"lintel/api"
	"lintel/heap"
	"lintel/keys"
	"lintel/object"
)

// Define: P17.2, P17.5.
func Define(h *heap.Heap, o int, k api.Key, d api.Desc) (bool, bool, api.Errno) {
	was, is := asking(h, o)()
	i, isIndex := indexOf(k)
	ok, e := false, api.OK
	switch {
	case is && isLengthKey(k) && d.Has&api.HasValue != 0:
		return defineLength(h, o, was, d)
	case is && isIndex && i >= was.n:
		ok, e = defineBeyond(h, o, was, i, d)
	default:
		ok, e = object.Define(h, o, k, d)
	}
	return ok, false, e
}

// defineBeyond defines the element i, which is not below the length.
func defineBeyond(h *heap.Heap, o int, was length, i uint32, d api.Desc) (bool, api.Errno) {
	if !isWritable(was.prop) {
		return false, api.OK
	}
	if ok, e := object.Define(h, o, keys.Of(i), d); !ok {
		return false, e
	}
	return object.Define(h, o, lengthKey(), giving(lengthProp(i+1).Value, true))
}

// defineLength defines `length` by a description that names a value.
func defineLength(h *heap.Heap, o int, was length, d api.Desc) (bool, bool, api.Errno) {
	n, is := lengthFrom(d.Prop.Value)
	if !is {
		return false, true, api.OK
	}
	if n < was.n {
		ok, e := shorten(h, o, was, n, d)
		return ok, false, e
	}
	ok, e := object.Define(h, o, lengthKey(), d)
	return ok, false, e
}

// shorten defines `length` by d, whose value is n, below the length.
func shorten(h *heap.Heap, o int, was length, n uint32, d api.Desc) (bool, api.Errno) {
	if !isWritable(was.prop) {
		return false, api.OK
	}
	if _, may := object.Merge(was.prop, true, h.Open(o), d); !may {
		return false, api.OK
	}
	for _, i := range slices.Backward(between(h, o, n, was.n)) {
		if !object.Delete(h, o, keys.Of(i)) {
			_, e := object.Define(h, o, lengthKey(), stopping(i+1, d))
			return false, e
		}
	}
	return object.Define(h, o, lengthKey(), d)
}

// stopping describes the length where what d asks for came to its end: n, and not Writable, if d says so; its other parts are left.
func stopping(n uint32, d api.Desc) api.Desc {
	return api.Desc{
		Has:  api.HasValue | d.Has&api.HasWritable,
		Prop: api.Prop{Value: lengthProp(n).Value, Flags: d.Prop.Flags & api.Writable},
	}
}
