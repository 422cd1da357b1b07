package vm

import "lintel/shape"

// How a machine is flushed.
const (
	flushEach    = 1 // no cache remembers anything
	flushBehind  = 2 // all caches are flushed behind each instruction
	flushObjects = 3 // each object that gets a property is a dictionary
)

// perSite is how many caches a site has: one for the value itself, one for its prototype. Those further along would go on forgetting each other.
const perSite = 2

// site is an instruction's caches.
type site [perSite]*cached

// cached is a cache, with the number of the flush that it has seen.
type cached struct {
	cache *shape.Cache
	flush int
}

// caching is all caches of a machine.
type caching struct {
	how     int
	flushes int // how many there were of all caches at once
	caches  []*cached
}

// cache is the site's cache for the object that stands n prototypes away, flushed if it should have been; nil: there is none.
func (m *Machine) cache(s *site, n int) *shape.Cache {
	if s == nil || n >= perSite {
		return nil
	}
	if s[n] == nil {
		s[n] = &cached{cache: shape.NewCache(), flush: m.flushes}
		m.caches = append(m.caches, s[n])
	}
	c := s[n]
	if m.how == flushEach || c.flush != m.flushes {
		c.cache.Flush()
		c.flush = m.flushes
	}
	return c.cache
}

// behind is what is done behind each instruction.
func (m *Machine) behind() {
	if m.how == flushBehind {
		m.flushes++
	}
}

// touch makes an object that gets a property a dictionary, if that is wanted.
func (m *Machine) touch(o int) {
	if m.how == flushObjects {
		m.heap.Force(o)
	}
}

// Flush: P21.14, P21.7.
func (m *Machine) Flush(how int) {
	if m.isMade() {
		m.how = how // of a number that is none nothing is flushed
		m.flushes++
	}
}

// Watch: P21.14.
func (m *Machine) Watch(f func()) {
	if m.isMade() {
		m.watch = f
	}
}

// Caches: P21.14.
func (m *Machine) Caches() (int, int) {
	if !m.isMade() {
		return 0, 0
	}
	hits, misses := 0, 0
	for _, c := range m.caches {
		h, n := c.cache.Asked()
		hits, misses = hits+h, misses+n
	}
	return hits, misses
}
