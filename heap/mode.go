package heap

import (
	"lintel/api"
	"lintel/shape"
)

// mode is how an object keeps its properties. Keys that go in are bare. What may end the mode answers the one in which the object is from then on.
type mode interface {
	find(c *shape.Cache, k api.Key) (at, flags int, is bool) // the place of k's slot, and its flags
	slot(at int) *slot
	add(k api.Key, flags int, s slot) mode // of a key that is not there
	change(k api.Key, flags int) mode      // of one that is
	keys() []api.Key                       // as they were added
	isFast() bool
	dictionary() *dictionary
}

// fast is the mode by shapes: which keys there are, where, with which flags, the shape says, for all objects that have it.
type fast struct {
	shapes *shape.Tree
	shape  int
	slots  []slot
}

func (f *fast) find(c *shape.Cache, k api.Key) (int, int, bool) {
	return f.shapes.Cached(c, f.shape, k)
}

func (f *fast) slot(at int) *slot { return &f.slots[at] }

func (f *fast) add(k api.Key, flags int, s slot) mode {
	to, e := f.shapes.Add(f.shape, k, flags)
	if e != api.OK {
		return f.dictionary().add(k, flags, s)
	}
	f.shape = to
	f.slots = append(f.slots, s)
	return f
}

func (f *fast) change(k api.Key, flags int) mode {
	to, e := f.shapes.Change(f.shape, k, flags)
	if e != api.OK {
		return f.dictionary().change(k, flags)
	}
	f.shape = to
	return f
}

func (f *fast) keys() []api.Key {
	l, _ := f.shapes.Keys(f.shape) // the shape is one that the tree told
	return l
}

func (f *fast) isFast() bool { return true }

func (f *fast) dictionary() *dictionary {
	d := &dictionary{places: make(map[api.Key]int, len(f.slots)), entries: make([]entry, 0, len(f.slots))}
	for k, flags := range f.shapes.Each(f.shape) {
		d.lay(entry{key: k, flags: flags, slot: f.slots[len(d.entries)]})
	}
	return d
}
