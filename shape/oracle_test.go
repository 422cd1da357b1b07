package shape_test

import (
	"math"
	"math/rand"
	"slices"
	"testing"

	"lintel/api"
	"lintel/shape"
)

// slot is a key of a shape, as the document's words have it.
type slot struct {
	key   api.Key
	flags int
}

// step is an Add or a Change that came to a shape of its own.
type step struct {
	change   bool
	from, to int
	slot     slot
}

// wordsTree is a tree by the document's words: nothing is shared, everything is looked for from the beginning.
type wordsTree struct {
	shapes [][]slot
	steps  []step
}

func newWords() *wordsTree { return &wordsTree{shapes: [][]slot{nil}} }

// alike: chapter 4's keys, by the bytes of whole units.
func alike(a, b api.Key) bool {
	if a.Sym > 0 || b.Sym > 0 {
		return a.Sym == b.Sym
	}
	return a.Name[:len(a.Name)/2*2] == b.Name[:len(b.Name)/2*2]
}

// plain is k as a call must answer it.
func plain(k api.Key) api.Key {
	if k.Sym > 0 {
		return api.Key{Sym: k.Sym}
	}
	return api.Key{Name: k.Name[:len(k.Name)/2*2]}
}

func (w *wordsTree) has(s int) bool { return w != nil && 0 <= s && s < len(w.shapes) }

func (w *wordsTree) find(s int, k api.Key) (int, int, bool) {
	if !w.has(s) {
		return 0, 0, false
	}
	for i, x := range w.shapes[s] {
		if alike(x.key, k) {
			return i, x.flags, true
		}
	}
	return 0, 0, false
}

func (w *wordsTree) add(s int, k api.Key, flags int) (int, api.Errno) {
	_, _, is := w.find(s, k)
	switch {
	case !w.has(s):
		return 0, api.ErrShape
	case flags < 0 || flags > 15:
		return 0, api.ErrRange
	case is:
		return 0, api.ErrThere
	case len(w.shapes[s]) == 128:
		return 0, api.ErrLong
	}
	return w.come(step{from: s, slot: slot{k, flags}}, append(slices.Clone(w.shapes[s]), slot{k, flags}))
}

func (w *wordsTree) change(s int, k api.Key, flags int) (int, api.Errno) {
	at, old, is := w.find(s, k)
	switch {
	case !w.has(s):
		return 0, api.ErrShape
	case flags < 0 || flags > 15:
		return 0, api.ErrRange
	case !is:
		return 0, api.ErrNone
	case old == flags:
		return s, api.OK
	}
	l := slices.Clone(w.shapes[s])
	l[at].flags = flags
	return w.come(step{change: true, from: s, slot: slot{k, flags}}, l)
}

// come answers what the same step answered ahead, else makes the shape.
func (w *wordsTree) come(x step, l []slot) (int, api.Errno) {
	for _, y := range w.steps {
		if y.change == x.change && y.from == x.from && y.slot.flags == x.slot.flags && alike(y.slot.key, x.slot.key) {
			return y.to, api.OK
		}
	}
	if len(w.shapes) == 100000 {
		return 0, api.ErrLong
	}
	x.to = len(w.shapes)
	w.shapes = append(w.shapes, l)
	w.steps = append(w.steps, x)
	return x.to, api.OK
}

// pair is a tree and what the words make of it.
type pair struct {
	tree  *shape.Tree
	words *wordsTree
}

func newPair() pair { return pair{shape.New(), newWords()} }

// add and change do a step in both, and hold them against each other.
func (p pair) add(t *testing.T, s int, k api.Key, flags int) int {
	t.Helper()
	want, fault := p.words.add(s, k, flags)
	if got, e := p.tree.Add(s, k, flags); got != want || e != fault {
		t.Fatalf("Add(%d, %x, %d): %d, error %d, not %d, error %d", s, k, flags, got, e, want, fault)
	}
	return want
}

func (p pair) change(t *testing.T, s int, k api.Key, flags int) int {
	t.Helper()
	want, fault := p.words.change(s, k, flags)
	if got, e := p.tree.Change(s, k, flags); got != want || e != fault {
		t.Fatalf("Change(%d, %x, %d): %d, error %d, not %d, error %d", s, k, flags, got, e, want, fault)
	}
	return want
}

func (p pair) find(t *testing.T, s int, k api.Key) {
	t.Helper()
	at, flags, is := p.words.find(s, k)
	if a, f, i := p.tree.Find(s, k); a != at || f != flags || i != is {
		t.Fatalf("Find(%d, %x): %d, %d, %v, not %d, %d, %v", s, k, a, f, i, at, flags, is)
	}
}

// checkShape holds all that is told of a shape against the words.
func (p pair) checkShape(t *testing.T, s int) {
	t.Helper()
	var want []slot
	fault := api.ErrShape
	if p.words.has(s) {
		want, fault = p.words.shapes[s], api.OK
	}
	l, e := p.tree.Keys(s)
	if e != fault || len(l) != len(want) {
		t.Fatalf("Keys(%d): %x, error %d; not %x, error %d", s, l, e, want, fault)
	}
	n := 0
	for k, flags := range p.tree.Each(s) {
		if n >= len(want) || k != plain(want[n].key) || flags != want[n].flags || l[n] != k {
			t.Fatalf("Each(%d) tells %x, %d at %d; Keys %x; not %x", s, k, flags, n, l, want)
		}
		p.find(t, s, k)
		n++
	}
	if n != len(want) {
		t.Fatalf("Each(%d) tells %d keys, not %d", s, n, len(want))
	}
}

func (p pair) check(t *testing.T) {
	t.Helper()
	if p.tree.Len() != len(p.words.shapes) {
		t.Fatalf("Len: %d, not %d", p.tree.Len(), len(p.words.shapes))
	}
	for s := range len(p.words.shapes) + 1 {
		p.checkShape(t, s)
	}
	p.checkShape(t, -1)
}

// pool is keys, many of them alike another one, or nearly so.
func pool() []api.Key {
	return []api.Key{
		{}, {Name: "\x00"}, {Sym: -1}, {Sym: math.MinInt},
		text("a"), {Name: text("a").Name + "a"}, {Name: text("a").Name, Sym: -7},
		text("b"), text("ab"), text("A"), {Name: "a\x00"}, {Name: "\xd8\x00"}, {Name: "\x00\x00"},
		text("0"), text("00"), text("1"),
		{Sym: 1}, {Sym: 1, Name: text("a").Name}, {Sym: 2}, {Sym: math.MaxInt}, {Sym: 1 << 32},
	}
}

// P14.2, P14.3, P14.6: steps as they come, at shapes that are there and that are not.
func TestStepsAsTheyCome(t *testing.T) {
	keys := pool()
	for seed := range 40 {
		r := rand.New(rand.NewSource(int64(seed)))
		p := newPair()
		// Few keys and flags come to the same steps often.
		few, reach := keys[:1+r.Intn(len(keys))], 1+r.Intn(17)
		for range 600 {
			s, k, flags := r.Intn(len(p.words.shapes)), few[r.Intn(len(few))], r.Intn(reach)
			switch r.Intn(40) {
			case 0:
				s = []int{-1, len(p.words.shapes), math.MinInt, math.MaxInt, 1 << 32}[r.Intn(5)]
			case 1:
				flags = []int{-1, 16, 17, 256, 263, math.MinInt, math.MaxInt, 1 << 32}[r.Intn(8)]
			}
			switch r.Intn(5) {
			case 0:
				p.find(t, s, k)
			case 1, 2:
				p.change(t, s, k, flags)
			default:
				p.add(t, s, k, flags)
			}
		}
		p.check(t)
	}
}

// P14.2, P14.6: objects that get their keys in a row, as programs make them; some leave the others' row, some change flags on the way.
func TestRowsOfKeys(t *testing.T) {
	r := rand.New(rand.NewSource(7))
	p := newPair()
	for range 60 {
		s := 0
		for i := range 40 {
			k := api.Key{Sym: i + 1}
			if r.Intn(20) == 0 {
				k.Sym += 100
			}
			if _, _, is := p.words.find(s, k); !is {
				s = p.add(t, s, k, 7)
			}
			if r.Intn(20) == 0 {
				s = p.change(t, s, api.Key{Sym: 1 + r.Intn(i+1)}, r.Intn(8)&5)
			}
		}
	}
	p.check(t)
}

// lastCall is what a cache was asked last, by the words.
type lastCall struct {
	tree  *shape.Tree
	shape int
	key   api.Key
}

// wordsCache counts hits and misses by the document's words.
type wordsCache struct {
	last         []lastCall // none or one
	hits, misses int
}

func (c *wordsCache) ask(q lastCall) {
	if len(c.last) > 0 && c.last[0].tree == q.tree && c.last[0].shape == q.shape && alike(c.last[0].key, q.key) {
		c.hits++
	} else {
		c.misses++
	}
	c.last = []lastCall{q}
}

// P14.4, P14.5: caches that are asked and flushed as it comes, at several trees that go on growing.
func TestCachesAsTheyCome(t *testing.T) {
	for seed := range 20 {
		r := rand.New(rand.NewSource(int64(seed)))
		keys := pool()[:2+r.Intn(12)]
		trees := []pair{newPair(), newPair(), {nil, nil}, {&shape.Tree{}, nil}}
		caches := []*shape.Cache{shape.NewCache(), shape.NewCache(), nil, {}}
		counts := make([]wordsCache, len(caches))
		var s, n, at int
		var k api.Key
		for range 3000 {
			if r.Intn(2) == 0 {
				at = r.Intn(len(trees))
				s, k = r.Intn(4), keys[r.Intn(len(keys))]
			}
			if r.Intn(3) == 0 {
				n = r.Intn(len(caches))
			}
			p, c, w := trees[at], caches[n], &counts[n]
			switch r.Intn(12) {
			case 0:
				c.Flush()
				w.last = nil
			case 1:
				if p.words != nil {
					p.add(t, r.Intn(len(p.words.shapes)), keys[r.Intn(len(keys))], 7)
				}
			case 2:
				if p.words != nil {
					p.change(t, r.Intn(len(p.words.shapes)), keys[r.Intn(len(keys))], 5)
				}
			default:
				place, flags, is := p.words.find(s, k)
				if a, f, i := p.tree.Cached(c, s, k); a != place || f != flags || i != is {
					t.Fatalf("Cached(%d, %x): %d, %d, %v, not %d, %d, %v", s, k, a, f, i, place, flags, is)
				}
				if n < 2 {
					w.ask(lastCall{p.tree, s, k})
				}
			}
			if hits, misses := c.Asked(); hits != w.hits || misses != w.misses {
				t.Fatalf("Asked: %d, %d, not %d, %d", hits, misses, w.hits, w.misses)
			}
		}
	}
}
