package shape_test

import (
	"math"
	"slices"
	"testing"
	"unsafe"

	"lintel/api"
	"lintel/shape"
)

// text is the key of a text of ASCII.
func text(s string) api.Key {
	b := make([]byte, 0, 2*len(s))
	for i := range len(s) {
		b = append(b, 0, s[i])
	}
	return api.Key{Name: api.Str(b)}
}

// P14.2, P14.3: the document's example.
func TestExample(t *testing.T) {
	x := shape.New()
	for _, c := range []struct {
		s     int
		key   string
		flags int
		want  int
	}{{0, "a", 7, 1}, {0, "a", 7, 1}, {0, "a", 1, 2}, {1, "b", 7, 3}} {
		if got, e := x.Add(c.s, text(c.key), c.flags); got != c.want || e != api.OK {
			t.Errorf("Add(%d, %s, %d): %d, error %d, not %d", c.s, c.key, c.flags, got, e, c.want)
		}
	}
	if at, flags, is := x.Find(3, text("b")); at != 1 || flags != 7 || !is {
		t.Errorf("Find(3, b): %d, %d, %v", at, flags, is)
	}
}

// P14.1
func TestNew(t *testing.T) {
	p, q := newPair(), newPair()
	p.check(t)
	p.add(t, 0, text("a"), 7)
	p.check(t)
	q.check(t)
	q.find(t, 0, text("a"))
	q.find(t, 1, text("a"))
}

// P14.1: a nil tree, and trees that New did not make.
func TestNoTree(t *testing.T) {
	made := shape.New()
	made.Add(0, text("a"), 7)
	copied := *made
	for name, x := range map[string]*shape.Tree{"nil": nil, "zero": {}, "copied": &copied} {
		for _, s := range []int{0, 1, -1} {
			if n, e := x.Add(s, text("b"), 99); n != 0 || e != api.ErrShape {
				t.Errorf("%s: Add: %d, error %d", name, n, e)
			}
			if n, e := x.Change(s, text("a"), 5); n != 0 || e != api.ErrShape {
				t.Errorf("%s: Change: %d, error %d", name, n, e)
			}
			if at, flags, is := x.Find(s, text("a")); at != 0 || flags != 0 || is {
				t.Errorf("%s: Find: %d, %d, %v", name, at, flags, is)
			}
			if l, e := x.Keys(s); len(l) != 0 || e != api.ErrShape {
				t.Errorf("%s: Keys: %x, error %d", name, l, e)
			}
			for k, flags := range x.Each(s) {
				t.Errorf("%s: Each tells %x, %d", name, k, flags)
			}
			for _, c := range []*shape.Cache{shape.NewCache(), nil} {
				if at, flags, is := x.Cached(c, s, text("a")); at != 0 || flags != 0 || is {
					t.Errorf("%s: Cached: %d, %d, %v", name, at, flags, is)
				}
			}
		}
		if x.Len() != 0 {
			t.Errorf("%s: Len: %d", name, x.Len())
		}
	}
	if made.Len() != 2 {
		t.Errorf("Len of the tree that was copied: %d", made.Len())
	}
}

// P14.2, P4: of several errors the one that is named first; with one the number is 0 and no shape comes.
func TestWrongSteps(t *testing.T) {
	x := shape.New()
	a, _ := x.Add(0, text("a"), 7)
	type step func(*shape.Tree, int, api.Key, int) (int, api.Errno)
	add, change := step((*shape.Tree).Add), step((*shape.Tree).Change)
	for _, c := range []struct {
		name  string
		do    step
		s     int
		key   api.Key
		flags int
		want  api.Errno
	}{
		{"Add, no shape", add, 2, text("a"), 16, api.ErrShape},
		{"Add, below", add, -1, text("a"), -1, api.ErrShape},
		{"Add, least", add, math.MinInt, text("b"), 7, api.ErrShape},
		{"Add, most", add, math.MaxInt, text("b"), 7, api.ErrShape},
		{"Add, flags", add, a, text("a"), 16, api.ErrRange},
		{"Add, flags below", add, 0, text("b"), -1, api.ErrRange},
		{"Add, flags of more bits", add, 0, text("b"), 256 + 7, api.ErrRange},
		{"Add, least flags", add, 0, text("b"), math.MinInt, api.ErrRange},
		{"Add, there", add, a, text("a"), 7, api.ErrThere},
		{"Add, there with other flags", add, a, text("a"), 5, api.ErrThere},
		{"Add, there with an odd byte", add, a, api.Key{Name: text("a").Name + "b", Sym: -1}, 5, api.ErrThere},
		{"Change, no shape", change, 2, text("b"), 16, api.ErrShape},
		{"Change, below", change, -1, text("a"), 7, api.ErrShape},
		{"Change, flags", change, a, text("b"), 16, api.ErrRange},
		{"Change, flags below", change, a, text("a"), -1, api.ErrRange},
		{"Change, none", change, a, text("b"), 7, api.ErrNone},
		{"Change, none at all", change, 0, text("a"), 7, api.ErrNone},
		{"Change, a symbol", change, a, api.Key{Name: text("a").Name, Sym: 1}, 7, api.ErrNone},
	} {
		if n, e := c.do(x, c.s, c.key, c.flags); n != 0 || e != c.want {
			t.Errorf("%s: %d, error %d, not %d", c.name, n, e, c.want)
		}
	}
	if x.Len() != 2 {
		t.Errorf("Len behind errors: %d", x.Len())
	}
	// A key that was refused has left nothing behind.
	if n, e := x.Add(a, text("b"), 0); n != 2 || e != api.OK {
		t.Errorf("Add behind errors: %d, error %d", n, e)
	}
}

// P14.2: each number from 0 to 15 is a flag's number, and a shape of its own; both a symbol and a text may have it.
func TestAllFlags(t *testing.T) {
	p := newPair()
	for range 2 {
		for flags := range 16 {
			s := p.add(t, 0, text("a"), flags)
			s = p.add(t, s, api.Key{Sym: 1}, 15-flags)
			for other := range 16 {
				p.change(t, s, text("a"), other)
				p.change(t, s, api.Key{Sym: 1}, other)
			}
		}
	}
	p.check(t)
}

// P14.2: a Change there and back is a shape of its own, for there is no same Change ahead.
func TestChangeBack(t *testing.T) {
	x := shape.New()
	a, _ := x.Add(0, text("a"), 7)
	b, _ := x.Change(a, text("a"), 5)
	c, _ := x.Change(b, text("a"), 7)
	d, _ := x.Change(c, text("a"), 5)
	again, _ := x.Change(b, text("a"), 7)
	if a != 1 || b != 2 || c != 3 || d != 4 || again != c {
		t.Errorf("Changes there and back: %d, %d, %d, %d, %d", a, b, c, d, again)
	}
}

// P14.2, P14.6: a shape that was added to goes another way as well, also where a Change shares its keys.
func TestTwoWays(t *testing.T) {
	p := newPair()
	a := p.add(t, 0, text("a"), 7)
	changed := p.change(t, a, text("a"), 5)
	p.add(t, a, text("b"), 7)
	p.add(t, changed, text("c"), 7)
	p.add(t, changed, text("b"), 1)
	p.add(t, a, text("c"), 7)
	p.add(t, 0, text("b"), 7)
	p.check(t)
}

// P14.3: it may be left, and gone over again, also while shapes come.
func TestEach(t *testing.T) {
	x := shape.New()
	a, _ := x.Add(0, text("a"), 1)
	b, _ := x.Add(a, api.Key{Sym: 3}, 2)
	c, _ := x.Add(b, text("c"), 4)
	each := x.Each(c)
	for range 2 {
		n := 0
		for k, flags := range each {
			if k != []api.Key{text("a"), {Sym: 3}, text("c")}[n] || flags != 1<<n {
				t.Errorf("Each tells %x, %d at %d", k, flags, n)
			}
			n++
			x.Add(c, api.Key{Sym: 10 + x.Len()}, 7)
			x.Change(c, k, 15)
		}
		if n != 3 {
			t.Errorf("Each tells %d keys", n)
		}
		for range each {
			break
		}
	}
}

// P14.2: MaxSlots keys are the most; a key that is there is told ahead of that.
func TestSlots(t *testing.T) {
	p := newPair()
	s := 0
	for i := range api.MaxSlots {
		s = p.add(t, s, api.Key{Sym: 1 + i}, i%16)
	}
	if l, _ := p.tree.Keys(s); len(l) != 128 {
		t.Fatalf("%d keys", len(l))
	}
	for _, c := range []struct {
		key   api.Key
		flags int
		want  api.Errno
	}{
		{text("a"), 7, api.ErrLong},
		{text("a"), 16, api.ErrRange},
		{api.Key{Sym: 128}, 7, api.ErrThere},
		{api.Key{Sym: 129}, 7, api.ErrLong},
	} {
		if n, e := p.tree.Add(s, c.key, c.flags); n != 0 || e != c.want {
			t.Errorf("Add(%x) to a full shape: %d, error %d, not %d", c.key, n, e, c.want)
		}
	}
	// The one ahead of it has room for another last key, and a full one may change.
	p.add(t, s-1, text("a"), 7)
	p.change(t, s, api.Key{Sym: 128}, 0)
	p.change(t, s, api.Key{Sym: 1}, 9)
	p.check(t)
}

// full is a tree of MaxShapes shapes: Adds of different keys to shape 0, or Changes in a row.
func full(t *testing.T, changes bool) *shape.Tree {
	t.Helper()
	x := shape.New()
	s, e := x.Add(0, text("a"), 0)
	for i := 2; i < api.MaxShapes && e == api.OK; i++ {
		if changes {
			s, e = x.Change(s, text("a"), i%16)
		} else {
			s, e = x.Add(0, api.Key{Sym: i}, 7)
		}
		if s != i {
			t.Fatalf("shape %d: %d, error %d", i, s, e)
		}
	}
	if e != api.OK || x.Len() != 100000 {
		t.Fatalf("%d shapes, error %d", x.Len(), e)
	}
	return x
}

// P14.2: MaxShapes shapes are the most; ways that there are go on, and other errors are told ahead.
func TestShapesInAll(t *testing.T) {
	x := full(t, false)
	for _, c := range []struct {
		name    string
		change  bool
		s       int
		key     api.Key
		flags   int
		want    int
		errorIs api.Errno
	}{
		{"a new key", false, 0, text("b"), 7, 0, api.ErrLong},
		{"a known key", false, 1, api.Key{Sym: 2}, 7, 0, api.ErrLong},
		{"other flags", false, 0, api.Key{Sym: 2}, 5, 0, api.ErrLong},
		{"a way that there is", false, 0, api.Key{Sym: 2}, 7, 2, api.OK},
		{"the last way", false, 0, api.Key{Sym: 99999}, 7, 99999, api.OK},
		{"there", false, 1, text("a"), 7, 0, api.ErrThere},
		{"flags", false, 0, text("b"), 16, 0, api.ErrRange},
		{"no shape", false, 100000, text("b"), 7, 0, api.ErrShape},
		{"a change", true, 1, text("a"), 5, 0, api.ErrLong},
		{"no change", true, 1, text("a"), 0, 1, api.OK},
		{"none to change", true, 1, text("b"), 0, 0, api.ErrNone},
	} {
		do := x.Add
		if c.change {
			do = x.Change
		}
		if n, e := do(c.s, c.key, c.flags); n != c.want || e != c.errorIs {
			t.Errorf("%s: %d, error %d, not %d, error %d", c.name, n, e, c.want, c.errorIs)
		}
	}
	if x.Len() != 100000 {
		t.Errorf("Len: %d", x.Len())
	}
	for s := 2; s < 100000; s++ {
		if at, flags, is := x.Find(s, api.Key{Sym: s}); at != 0 || flags != 7 || !is {
			t.Fatalf("Find(%d): %d, %d, %v", s, at, flags, is)
		}
	}
}

// P14.2, P14.3: shapes that came by a hundred thousand Changes in a row are asked as fast as others.
func TestChangesInARow(t *testing.T) {
	x := full(t, true)
	for s := 2; s < 100000; s++ {
		if at, flags, is := x.Find(s, text("a")); at != 0 || flags != s%16 || !is {
			t.Fatalf("Find(%d): %d, %d, %v", s, at, flags, is)
		}
		if to, e := x.Change(s-1, text("a"), s%16); to != s || e != api.OK {
			t.Fatalf("Change(%d): %d, error %d", s-1, to, e)
		}
	}
	if n, e := x.Change(99999, text("a"), 0); n != 0 || e != api.ErrLong {
		t.Errorf("a Change more: %d, error %d", n, e)
	}
	if n, e := x.Add(99999, text("b"), 0); n != 0 || e != api.ErrLong {
		t.Errorf("an Add more: %d, error %d", n, e)
	}
}

// P14.2, P14.3: a full tree of long shapes, each with a last key of its own.
func TestLongShapes(t *testing.T) {
	x := shape.New()
	s := 0
	for i := range api.MaxSlots - 1 {
		s, _ = x.Add(s, api.Key{Sym: 1 + i}, 7)
	}
	for x.Len() < api.MaxShapes {
		if n, e := x.Add(s, api.Key{Sym: 1000 + x.Len()}, x.Len()%16); n != x.Len()-1 || e != api.OK {
			t.Fatalf("Add: %d, error %d", n, e)
		}
	}
	for n := s + 1; n < api.MaxShapes; n++ {
		if at, flags, is := x.Find(n, api.Key{Sym: 1000 + n}); at != 127 || flags != n%16 || !is {
			t.Fatalf("Find(%d): %d, %d, %v", n, at, flags, is)
		}
		if at, _, is := x.Find(n, api.Key{Sym: 999 + n}); at != 0 || is {
			t.Fatalf("Find of another's key: %d, %v", at, is)
		}
	}
}

// P14.6: a shape never changes, whatever comes of it.
func TestShapesStay(t *testing.T) {
	x := shape.New()
	s := 0
	var told [][]api.Key
	for i := range 20 {
		l, _ := x.Keys(s)
		told = append(told, l)
		x.Add(s, text("other"), 7)
		x.Change(s, api.Key{Sym: 1}, i%16)
		next, e := x.Add(s, api.Key{Sym: 1 + i}, 7)
		if e != api.OK {
			t.Fatal(e)
		}
		if l, _ := x.Keys(s); !slices.Equal(l, told[i]) {
			t.Fatalf("shape %d: %x, then %x", s, told[i], l)
		}
		s = next
	}
	for i, l := range told {
		if len(l) != i {
			t.Errorf("%d keys, not %d", len(l), i)
		}
	}
}

func data(s api.Str) *byte { return unsafe.StringData(string(s)) }

// P2: what is kept and answered shares no memory with an argument, nor do two answers.
func TestMemory(t *testing.T) {
	x := shape.New()
	given := make([]byte, 0, 8)
	given = append(given, 0, 'a', 0, 'b')
	k := api.Key{Name: api.Str(unsafe.String(&given[0], len(given)))}
	s, _ := x.Add(0, k, 7)
	c := shape.NewCache()
	x.Cached(c, s, k)
	given[3] = 'c'
	if _, _, is := x.Find(s, text("ab")); !is {
		t.Error("what is kept has changed with the argument")
	}
	x.Cached(c, s, text("ab"))
	if hits, misses := c.Asked(); hits != 1 || misses != 1 {
		t.Errorf("what a cache remembers has changed with the argument: %d, %d", hits, misses)
	}
	one, _ := x.Keys(s)
	two, _ := x.Keys(s)
	seen := []*byte{data(k.Name), data(one[0].Name), data(two[0].Name)}
	for k := range x.Each(s) {
		seen = append(seen, data(k.Name))
	}
	for k := range x.Each(s) {
		seen = append(seen, data(k.Name))
	}
	for i, p := range seen {
		if slices.Index(seen, p) != i {
			t.Errorf("answer %d shares memory", i)
		}
	}
	one[0] = text("z")
	if l, _ := x.Keys(s); l[0] != text("ab") {
		t.Errorf("Keys behind a change of its answer: %x", l)
	}
	if l, e := x.Keys(0); len(l) != 0 || e != api.OK {
		t.Errorf("Keys(0): %x, error %d", l, e)
	}
}
