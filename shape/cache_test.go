package shape_test

import (
	"sync"
	"testing"

	"lintel/api"
	"lintel/shape"
)

// asked holds a cache's counts against what they must be.
func asked(t *testing.T, c *shape.Cache, hits, misses int) {
	t.Helper()
	if h, m := c.Asked(); h != hits || m != misses {
		t.Errorf("Asked: %d, %d, not %d, %d", h, m, hits, misses)
	}
}

// told holds what Cached tells against Find.
func told(t *testing.T, x *shape.Tree, c *shape.Cache, s int, k api.Key) {
	t.Helper()
	at, flags, is := x.Find(s, k)
	if a, f, i := x.Cached(c, s, k); a != at || f != flags || i != is {
		t.Errorf("Cached(%d, %x): %d, %d, %v, not %d, %d, %v", s, k, a, f, i, at, flags, is)
	}
}

// P14.4: what is a hit and what a miss.
func TestHits(t *testing.T) {
	x := shape.New()
	a, _ := x.Add(0, text("a"), 7)
	b, _ := x.Add(a, text("b"), 5)
	c := shape.NewCache()
	asked(t, c, 0, 0)
	told(t, x, c, a, text("a"))
	asked(t, c, 0, 1)
	told(t, x, c, a, text("a"))
	told(t, x, c, a, text("a"))
	asked(t, c, 2, 1)
	told(t, x, c, b, text("a"))
	asked(t, c, 2, 2)
	told(t, x, c, b, text("b"))
	asked(t, c, 2, 3)
	told(t, x, c, b, text("b"))
	asked(t, c, 3, 3)
	told(t, x, c, a, text("a")) // not the last call, though it was one
	asked(t, c, 3, 4)
	c.Flush()
	asked(t, c, 3, 4)
	told(t, x, c, a, text("a"))
	asked(t, c, 3, 5)
	told(t, x, c, a, text("a"))
	asked(t, c, 4, 5)
	c.Flush()
	c.Flush()
	asked(t, c, 4, 5)
}

// P14.4: what is not there is remembered as well.
func TestHitsOfNone(t *testing.T) {
	x := shape.New()
	a, _ := x.Add(0, text("a"), 7)
	c := shape.NewCache()
	told(t, x, c, a, text("b"))
	told(t, x, c, a, text("b"))
	asked(t, c, 1, 1)
	x.Add(a, text("b"), 7) // the shape has b no more than ahead
	told(t, x, c, a, text("b"))
	asked(t, c, 2, 1)
	for _, s := range []int{-1, 99} {
		told(t, x, c, s, text("a"))
		told(t, x, c, s, text("a"))
	}
	asked(t, c, 4, 3)
}

// P14.4, P14.5: a shape that comes between two calls is a hit that tells what Find tells now.
func TestShapeThatComes(t *testing.T) {
	x := shape.New()
	c := shape.NewCache()
	told(t, x, c, 1, text("a"))
	x.Add(0, text("a"), 3)
	if at, flags, is := x.Cached(c, 1, text("a")); at != 0 || flags != 3 || !is {
		t.Errorf("Cached: %d, %d, %v", at, flags, is)
	}
	told(t, x, c, 1, text("a"))
	asked(t, c, 2, 1)
	told(t, x, c, 2, text("a"))
	x.Add(0, text("b"), 3)
	told(t, x, c, 2, text("a"))
	asked(t, c, 3, 2)
}

// P14.4: keys that are alike are the same k; those that look so are not.
func TestHitsOfKeysAlike(t *testing.T) {
	x := shape.New()
	s, _ := x.Add(0, text("a"), 7)
	s, _ = x.Add(s, api.Key{Sym: 1}, 5)
	for _, l := range [][]api.Key{
		{text("a"), {Name: text("a").Name + "x"}, {Name: text("a").Name, Sym: -3}},
		{{Sym: 1}, {Sym: 1, Name: text("a").Name}, {Sym: 1, Name: "x"}},
		{{}, {Name: "x"}, {Sym: -1}},
	} {
		c := shape.NewCache()
		for _, k := range l {
			told(t, x, c, s, k)
		}
		asked(t, c, len(l)-1, 1)
	}
	c := shape.NewCache()
	for _, k := range []api.Key{text("a"), {Sym: 1, Name: text("a").Name}, {Sym: 2}, {}, {Sym: 1}, {Name: "a\x00"}, text("aa")} {
		told(t, x, c, s, k)
	}
	asked(t, c, 0, 7)
}

// P14.4: the same shape and key of another tree is a miss; so is a first call, whatever it asks.
func TestHitsOfTrees(t *testing.T) {
	x, y := shape.New(), shape.New()
	x.Add(0, text("b"), 7)
	a, _ := x.Add(1, text("a"), 7)
	y.Add(0, text("a"), 3)
	y.Add(1, text("b"), 7)
	c := shape.NewCache()
	told(t, x, c, a, text("a"))
	told(t, y, c, a, text("a"))
	told(t, x, c, a, text("a"))
	asked(t, c, 0, 3)
	var none *shape.Tree
	d := shape.NewCache()
	told(t, none, d, 0, api.Key{})
	asked(t, d, 0, 1)
	told(t, none, d, 0, api.Key{})
	asked(t, d, 1, 1)
	told(t, &shape.Tree{}, d, 0, api.Key{})
	asked(t, d, 1, 2)
}

// P14.4: caches know nothing of each other.
func TestTwoCaches(t *testing.T) {
	x := shape.New()
	x.Add(0, text("a"), 7)
	c, d := shape.NewCache(), shape.NewCache()
	told(t, x, c, 1, text("a"))
	told(t, x, d, 0, text("a"))
	told(t, x, c, 1, text("a"))
	d.Flush()
	told(t, x, c, 1, text("a"))
	asked(t, c, 2, 1)
	asked(t, d, 0, 1)
}

// P14.4: a nil cache, and one that NewCache did not make.
func TestNoCache(t *testing.T) {
	x := shape.New()
	s, _ := x.Add(0, text("a"), 7)
	for _, c := range []*shape.Cache{nil, {}} {
		for range 3 {
			told(t, x, c, s, text("a"))
			told(t, x, c, s, text("b"))
			told(t, x, c, -1, text("a"))
		}
		asked(t, c, 0, 0)
		c.Flush()
		told(t, x, c, s, text("a"))
		asked(t, c, 0, 0)
	}
}

// P14.4, P14.5: several that ask by one cache at once are all told what Find tells, and each call is counted.
func TestManyAskAtOnce(t *testing.T) {
	const askers, calls = 8, 2000
	x := shape.New()
	s := 0
	for i := range 20 {
		s, _ = x.Add(s, text("key"+string(rune('a'+i))), i%16)
	}
	c := shape.NewCache()
	var all sync.WaitGroup
	for n := range askers {
		all.Go(func() {
			for i := range calls {
				told(t, x, c, (i/3+n)%22, text("key"+string(rune('a'+i/5%21))))
				if i%97 == 0 {
					c.Flush()
				}
			}
		})
	}
	all.Wait()
	if hits, misses := c.Asked(); hits+misses != askers*calls {
		t.Errorf("Asked: %d, %d, of %d calls", hits, misses, askers*calls)
	}
}
