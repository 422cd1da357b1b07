package shape

import (
	"sync/atomic"

	"lintel/api"
)

// Cache remembers where a key was found. What it remembers is swapped whole and its counts are atomic, so that several may ask by one cache at once, as they may ask a tree that nobody adds to.
type Cache struct {
	self         *Cache // itself, if NewCache made it
	last         atomic.Pointer[memory]
	hits, misses atomic.Int64
}

// question is what Cached was asked; its key is bare.
type question struct {
	tree  *Tree
	shape int
	key   api.Key
}

// memory is a question with what Find told.
type memory struct {
	question
	at, flags int
	found     bool
	stays     bool // there was such a shape, and shapes never change; where there was none, one may come
}

// NewCache: P14.4.
func NewCache() *Cache {
	c := &Cache{}
	c.self = c
	return c
}

func (c *Cache) isMade() bool { return c != nil && c.self == c }

// Cached: P14.4, P14.5.
func (t *Tree) Cached(c *Cache, s int, k api.Key) (int, int, bool) {
	if !c.isMade() {
		return t.Find(s, k)
	}
	q := question{tree: t, shape: s, key: bare(k)}
	last := c.last.Load()
	if last == nil || last.question != q {
		c.misses.Add(1)
		last = q.asked()
		c.last.Store(last)
		return last.at, last.flags, last.found
	}
	c.hits.Add(1)
	if !last.stays {
		return t.Find(s, k)
	}
	return last.at, last.flags, last.found
}

// asked is the question with its answer, for a cache to keep.
func (q question) asked() *memory {
	q.key = own(q.key)
	m := &memory{question: q, stays: q.tree.has(q.shape)}
	m.at, m.flags, m.found = q.tree.Find(q.shape, q.key)
	return m
}

// Flush: P14.4.
func (c *Cache) Flush() {
	if c.isMade() {
		c.last.Store(nil)
	}
}

// Asked: P14.4.
func (c *Cache) Asked() (int, int) {
	if !c.isMade() {
		return 0, 0
	}
	return int(c.hits.Load()), int(c.misses.Load())
}
