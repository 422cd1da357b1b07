package heap

import (
	"lintel/api"
	"lintel/shape"
)

// dictionary is the mode of an object that goes by no shape.
type dictionary struct {
	places  map[api.Key]int // of the bare keys, among the entries
	entries []entry         // as they were added; one that was dropped leaves a gap
}

// entry is a property with its key. In a gap its flags are noFlags.
type entry struct {
	key   api.Key
	flags int
	slot  slot
}

const noFlags = -1

// fewEntries are so few that gaps among them do no harm.
const fewEntries = 16

func (d *dictionary) find(_ *shape.Cache, k api.Key) (int, int, bool) {
	at, is := d.places[k]
	if !is {
		return 0, 0, false
	}
	return at, d.entries[at].flags, true
}

func (d *dictionary) slot(at int) *slot { return &d.entries[at].slot }

func (d *dictionary) add(k api.Key, flags int, s slot) mode {
	d.lay(entry{key: own(k), flags: flags, slot: s})
	return d
}

func (d *dictionary) lay(e entry) {
	d.places[e.key] = len(d.entries)
	d.entries = append(d.entries, e)
}

func (d *dictionary) change(k api.Key, flags int) mode {
	d.entries[d.places[k]].flags = flags
	return d
}

// drop takes k away, which is there.
func (d *dictionary) drop(k api.Key) {
	d.entries[d.places[k]] = entry{flags: noFlags}
	delete(d.places, k)
	if size := len(d.entries); size > fewEntries && len(d.places) < size/2 {
		d.tighten()
	}
}

// tighten takes the gaps out. It is called when they are the greater part, so that a drop takes little time and room, taken all in all.
func (d *dictionary) tighten() {
	all := d.entries
	d.places, d.entries = make(map[api.Key]int, len(d.places)), make([]entry, 0, len(d.places))
	for _, e := range all {
		if e.flags != noFlags {
			d.lay(e)
		}
	}
}

func (d *dictionary) keys() []api.Key {
	out := make([]api.Key, 0, len(d.places))
	for _, e := range d.entries {
		if e.flags != noFlags {
			out = append(out, e.key)
		}
	}
	return out
}

func (d *dictionary) isFast() bool { return false }

func (d *dictionary) dictionary() *dictionary { return d }
