package array

import (
	"lintel/api"
	"lintel/heap"
	"lintel/object"
)

// Set: P17.3, P17.5.
func Set(h *heap.Heap, o int, k api.Key, v api.Value, receiver int) (int, api.Value, bool, api.Errno) {
	there, gives := givesValue(h, o, k, receiver)
	if !gives {
		how, setter, e := object.Set(h, o, k, v, receiver)
		return how, setter, false, e
	}
	ok, bad, e := Define(h, receiver, k, giving(v, there))
	if !ok {
		return api.SetRefused, api.Value{}, bad, e
	}
	return api.SetDone, api.Value{}, false, api.OK
}

// givesValue: whether receiver has k, and whether object.Set comes to give it a value for k (but that Open is not asked).
func givesValue(h *heap.Heap, o int, k api.Key, receiver int) (there, gives bool) {
	if !h.Has(o) || !h.Has(receiver) {
		return false, false
	}
	at, p, is := object.Find(h, o, k)
	if is && !isWritable(p) {
		return false, false
	}
	if at != receiver {
		p, is = h.Own(receiver, k)
	}
	return is, !is || isWritable(p)
}

// giving describes a property that is given the value v: one that is there keeps its flags, a new one is an element.
func giving(v api.Value, there bool) api.Desc {
	d := api.Desc{Has: api.HasValue, Prop: api.Prop{Value: v}}
	if !there {
		d.Has |= api.HasWritable | api.HasEnumerable | api.HasConfigurable
		d.Prop.Flags = elementFlags
	}
	return d
}
