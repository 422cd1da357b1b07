package heap_test

import (
	"math"
	"runtime"
	"slices"
	"strconv"
	"testing"
	"unsafe"

	"lintel/api"
	"lintel/heap"
	"lintel/shape"
)

// text is the key of a text of ASCII.
func text(s string) api.Key {
	b := make([]byte, 0, 2*len(s))
	for i := range len(s) {
		b = append(b, 0, s[i])
	}
	return api.Key{Name: api.Str(b)}
}

func number(x float64) api.Value { return api.Value{Kind: api.Number, Num: x} }

// plain is a property with a number and all flags of a value.
func plain(x float64) api.Prop { return api.Prop{Value: number(x), Flags: 7} }

// numbered is the key of a text that no other number has.
func numbered(n int) api.Key { return text("k" + strconv.Itoa(n)) }

// P15.2 to P15.5: the document's example.
func TestExample(t *testing.T) {
	h := heap.New(100)
	if o, e := h.Make(0, 0); o != 1 || e != api.OK {
		t.Fatalf("Make: %d, error %d", o, e)
	}
	for i, k := range []string{"b", "2", "a"} {
		if e := h.Put(1, text(k), plain(float64(i))); e != api.OK {
			t.Fatalf("Put(%s): error %d", k, e)
		}
	}
	if l := h.Keys(1); !slices.Equal(l, []api.Key{text("2"), text("b"), text("a")}) || h.Used() != 4 {
		t.Errorf("Keys, Used: %x, %d", l, h.Used())
	}
	if !h.Fast(1) || !h.Drop(1, text("b")) || h.Fast(1) {
		t.Errorf("Drop: Fast is %v", h.Fast(1))
	}
}

// P15.1, P15.7: limits of all sorts; below 1 there is no room at all.
func TestNew(t *testing.T) {
	for _, limit := range []int{math.MinInt, -1, 0, 1, 2, 3, math.MaxInt} {
		p := newPair(limit)
		p.check(t)
		o := p.make(t, 0, 0)
		p.put(t, o, text("a"), plain(1))
		p.put(t, o, text("b"), plain(1))
		p.make(t, 0, o)
		p.check(t)
	}
	p, q := newPair(9), newPair(9)
	p.put(t, p.make(t, 0, 0), text("a"), plain(1))
	q.check(t) // heaps know nothing of each other
}

// P15.1: a nil heap, and heaps that New did not make.
func TestNoHeap(t *testing.T) {
	made := heap.New(10)
	made.Make(0, 0)
	made.Put(1, text("a"), plain(1))
	copied := *made
	for name, h := range map[string]*heap.Heap{"nil": nil, "zero": {}, "copied": &copied} {
		for _, o := range []int{0, 1, -1} {
			if n, e := h.Make(o*9, o); n != 0 || e != api.ErrObject {
				t.Errorf("%s: Make: %d, error %d", name, n, e)
			}
			if e := []api.Errno{h.SetProto(o, 0), h.Shut(o), h.Force(o), h.Put(o, text("a"), plain(2)), h.Put(o, text("a"), api.Prop{Flags: 16})}; slices.ContainsFunc(e, func(e api.Errno) bool { return e != api.ErrObject }) {
				t.Errorf("%s: errors %d", name, e)
			}
			if h.Has(o) || h.Open(o) || h.Fast(o) || h.Drop(o, text("a")) || h.Class(o) != 0 || h.Proto(o) != 0 || len(h.Keys(o)) != 0 {
				t.Errorf("%s: something is told of %d", name, o)
			}
			for _, c := range []*shape.Cache{nil, {}, shape.NewCache()} {
				if p, is := h.By(c, o, text("a")); is || p != (api.Prop{}) {
					t.Errorf("%s: By: %+v, %v", name, p, is)
				}
			}
			if p, is := h.Own(o, text("a")); is || p != (api.Prop{}) {
				t.Errorf("%s: Own: %+v, %v", name, p, is)
			}
		}
		if h.Used() != 0 || h.Len() != 0 {
			t.Errorf("%s: Used, Len: %d, %d", name, h.Used(), h.Len())
		}
	}
	if p, is := made.Own(1, text("a")); !is || p != plain(1) || made.Used() != 2 {
		t.Errorf("the heap itself: %+v, %v, %d", p, is, made.Used())
	}
}

// P15.2: numbers, classes, prototypes; which error comes first.
func TestMake(t *testing.T) {
	p := newPair(7)
	for class := range 7 {
		if o := p.make(t, class, class); o != class+1 { // each one's prototype is the one ahead of it
			t.Errorf("Make: %d", o)
		}
	}
	p.check(t)
	for _, c := range []struct {
		class, proto int
		want         api.Errno
	}{{0, 0, api.ErrHeap}, {6, 7, api.ErrHeap}, {7, 0, api.ErrRange}, {-1, 0, api.ErrRange}, {7, 8, api.ErrRange}, {math.MinInt, -1, api.ErrRange}, {math.MaxInt, 0, api.ErrRange}, {0, 8, api.ErrObject}, {0, -1, api.ErrObject}, {6, math.MaxInt, api.ErrObject}} {
		if o, e := p.heap.Make(c.class, c.proto); o != 0 || e != c.want {
			t.Errorf("Make(%d, %d): %d, error %d, not %d", c.class, c.proto, o, e, c.want)
		}
	}
	p.check(t)
}

// P15.2
func TestSetProto(t *testing.T) {
	p := newPair(10)
	for range 3 {
		p.make(t, 0, 0)
	}
	for _, o := range []int{1, 2, 3, 0, 4, -1, math.MinInt, math.MaxInt} {
		for _, proto := range []int{2, 3, 1, 0, 4, -1, math.MinInt, math.MaxInt} {
			p.setProto(t, o, proto)
			p.check(t)
		}
	}
	p.setProto(t, 1, 2)
	p.setProto(t, 2, 1)
	p.setProto(t, 3, 3)
	p.shut(t, 3)
	p.setProto(t, 3, 1)
	p.check(t)
}

// P15.2, P15.3: what is shut stays so, though Put does not ask.
func TestShut(t *testing.T) {
	p := newPair(10)
	p.make(t, 1, 0)
	p.make(t, 2, 0)
	for _, o := range []int{2, 2, 0, 3, -1} {
		p.shut(t, o)
		p.check(t)
	}
	p.put(t, 2, text("a"), plain(1))
	p.force(t, 2)
	p.put(t, 2, text("b"), plain(1))
	p.drop(t, 2, text("a"))
	p.check(t)
	if p.heap.Open(2) || !p.heap.Open(1) || len(p.heap.Keys(2)) != 1 {
		t.Errorf("Open: %v, %v", p.heap.Open(1), p.heap.Open(2))
	}
}

// modes calls f with an object that is fast, and with one that is not.
func modes(t *testing.T, limit int, f func(p pair)) {
	t.Helper()
	for _, forced := range []bool{false, true} {
		p := newPair(limit)
		if p.make(t, 0, 0); forced {
			p.force(t, 1)
		}
		f(p)
		p.check(t)
	}
}

// P15.3: of each property the fields that count are kept, whatever stood there ahead.
func TestFieldsThatCount(t *testing.T) {
	modes(t, 100, func(p pair) {
		for _, k := range []api.Key{text("a"), {Sym: 1}} {
			for was := range 16 {
				for is := range 16 {
					for _, flags := range []int{was, is} {
						p.put(t, 1, k, api.Prop{Value: number(1), Get: api.Value{Kind: api.Object, Ref: 2}, Set: api.Value{Kind: api.Text, Str: text("x").Name}, Flags: flags})
						p.own(t, nil, 1, k)
					}
				}
			}
		}
	})
	h := heap.New(5)
	h.Make(0, 0)
	h.Put(1, text("a"), api.Prop{Value: number(1), Get: number(2), Set: number(3), Flags: 7})
	h.Put(1, text("b"), api.Prop{Value: number(1), Get: number(2), Set: number(3), Flags: api.Accessor | api.Enumerable})
	if p, is := h.Own(1, text("a")); p != (api.Prop{Value: number(1), Flags: 7}) || !is {
		t.Errorf("Own: %+v, %v", p, is)
	}
	if p, is := h.Own(1, text("b")); p != (api.Prop{Get: number(2), Set: number(3), Flags: 10}) || !is {
		t.Errorf("Own: %+v, %v", p, is)
	}
}

// P15.3: values stay what they are: a nought its sign, a NaN one.
func TestValuesStay(t *testing.T) {
	modes(t, 5, func(p pair) {
		p.heap.Put(1, text("a"), plain(math.Copysign(0, -1)))
		p.heap.Put(1, text("b"), plain(math.NaN()))
		if x, _ := p.heap.Own(1, text("a")); !math.Signbit(x.Value.Num) {
			t.Errorf("Own: %+v", x)
		}
		if x, _ := p.heap.Own(1, text("b")); x.Value.Num == x.Value.Num || x.Value.Kind != api.Number {
			t.Errorf("Own: %+v", x)
		}
		p.heap.Drop(1, text("a"))
		p.heap.Drop(1, text("b"))
		p.words.objects[0].slow()
	})
}

// P15.3: which keys are alike, and as what they are told.
func TestKeysAlike(t *testing.T) {
	a := text("a").Name
	modes(t, 100, func(p pair) {
		for _, k := range []api.Key{{Name: a + "x"}, {Sym: 1, Name: a}, {Name: "x", Sym: -1}, {Sym: 2}} {
			p.put(t, 1, k, plain(1))
		}
		for i, k := range []api.Key{text("a"), {Name: a, Sym: math.MinInt}, {}, {Name: "y"}, {Sym: 1}, {Sym: 2, Name: "z"}} {
			p.own(t, nil, 1, k)
			p.put(t, 1, k, api.Prop{Value: number(float64(i)), Flags: i})
			p.check(t)
		}
		if l := p.heap.Keys(1); !slices.Equal(l, []api.Key{text("a"), {}, {Sym: 1}, {Sym: 2}}) {
			t.Errorf("Keys: %x", l)
		}
		for _, k := range []api.Key{text("aa"), {Name: "a\x00"}, {Sym: 3}, {Sym: math.MaxInt, Name: a}} {
			if _, is := p.heap.Own(1, k); is {
				t.Errorf("Own(%x)", k)
			}
			p.drop(t, 1, k)
		}
		p.drop(t, 1, api.Key{Name: a + "q", Sym: -2})
		p.drop(t, 1, api.Key{Name: a, Sym: 1})
		if l := p.heap.Keys(1); !slices.Equal(l, []api.Key{{}, {Sym: 2}}) {
			t.Errorf("Keys: %x", l)
		}
	})
}

// P15.3: what is put anew stays where it stood; what was dropped and put stands behind.
func TestOrder(t *testing.T) {
	modes(t, 100, func(p pair) {
		for _, k := range []string{"c", "a", "10", "b", "9"} {
			p.put(t, 1, text(k), plain(1))
			p.put(t, 1, api.Key{Sym: 100 - p.heap.Used()}, plain(2))
		}
		p.put(t, 1, text("a"), api.Prop{Flags: 8})
		p.check(t)
		p.drop(t, 1, text("a"))
		p.check(t)
		p.put(t, 1, text("a"), plain(3))
		p.drop(t, 1, text("10"))
		p.put(t, 1, text("10"), plain(3))
		p.check(t)
		if l := p.heap.Keys(1); !slices.Equal(l[:5], []api.Key{text("9"), text("10"), text("c"), text("b"), text("a")}) {
			t.Errorf("Keys: %x", l)
		}
	})
}

// P15.3, P15.7: which error of Put comes first; what is there needs no room.
func TestPutErrors(t *testing.T) {
	modes(t, 2, func(p pair) {
		p.put(t, 1, text("a"), plain(1))
		for _, c := range []struct {
			o     int
			key   string
			flags int
			want  api.Errno
		}{
			{0, "a", 16, api.ErrObject}, {2, "b", -1, api.ErrObject}, {-1, "a", 7, api.ErrObject}, {math.MaxInt, "a", 7, api.ErrObject}, {math.MinInt, "a", 7, api.ErrObject},
			{1, "a", 16, api.ErrRange}, {1, "b", 16, api.ErrRange}, {1, "b", -1, api.ErrRange}, {1, "a", math.MinInt, api.ErrRange}, {1, "a", math.MaxInt, api.ErrRange},
			{1, "b", 7, api.ErrHeap}, {1, "b", 0, api.ErrHeap},
			{1, "a", 15, api.OK}, {1, "a", 0, api.OK},
		} {
			if e := p.put(t, c.o, text(c.key), api.Prop{Value: number(5), Flags: c.flags}); e != c.want {
				t.Errorf("Put(%d, %s, %d): error %d, not %d", c.o, c.key, c.flags, e, c.want)
			}
			p.check(t)
		}
	})
}

// P15.3, P15.7: a dropped property's cell is free again, for a property or an object.
func TestDropMakesRoom(t *testing.T) {
	modes(t, 3, func(p pair) {
		p.put(t, 1, text("a"), plain(1))
		p.put(t, 1, text("b"), plain(1))
		p.put(t, 1, text("c"), plain(1))
		p.drop(t, 1, text("c"))
		p.drop(t, 2, text("a"))
		p.check(t)
		p.drop(t, 1, text("a"))
		p.drop(t, 1, text("a"))
		p.put(t, 1, text("c"), plain(1))
		p.drop(t, 1, text("b"))
		p.make(t, 0, 1)
		p.make(t, 0, 1)
		p.put(t, 2, text("c"), plain(1))
		p.check(t)
		if p.heap.Len() != 2 || p.heap.Used() != 3 {
			t.Errorf("Len, Used: %d, %d", p.heap.Len(), p.heap.Used())
		}
	})
}

// P15.4: what leaves an object fast, and what does not.
func TestFast(t *testing.T) {
	p := newPair(100)
	fast := func(want bool) {
		t.Helper()
		if p.check(t); p.heap.Fast(1) != want {
			t.Errorf("Fast: %v", !want)
		}
	}
	p.make(t, 0, 0)
	fast(true)
	p.put(t, 1, text("a"), plain(1))
	p.put(t, 1, api.Key{Sym: 1}, api.Prop{Flags: 8})
	p.put(t, 1, text("1"), plain(1))
	p.put(t, 1, text("a"), api.Prop{Flags: 15})
	p.put(t, 1, text("a"), api.Prop{Flags: 3})
	p.put(t, 1, text("a"), api.Prop{Flags: 16})
	p.drop(t, 1, text("b"))
	p.setProto(t, 1, 1)
	p.shut(t, 1)
	fast(true)
	p.drop(t, 1, text("1"))
	fast(false)
	p.put(t, 1, text("1"), plain(1))
	p.drop(t, 1, text("a"))
	p.drop(t, 1, text("1"))
	p.drop(t, 1, api.Key{Sym: 1})
	fast(false)
	p.force(t, 1)
	fast(false)
	p.make(t, 0, 0)
	p.put(t, 2, text("a"), plain(1))
	p.check(t)
	p.force(t, 2)
	p.force(t, 0)
	p.force(t, 9)
	p.check(t)
}

// P15.4: past shape's MaxSlots an object is a dictionary.
func TestManyKeys(t *testing.T) {
	p := newPair(1000)
	p.make(t, 0, 0)
	for n := range api.MaxSlots {
		p.put(t, 1, numbered(n), plain(float64(n)))
	}
	p.put(t, 1, numbered(3), api.Prop{Flags: 9})
	p.check(t)
	if !p.heap.Fast(1) {
		t.Error("not fast ahead of the limit")
	}
	p.put(t, 1, numbered(api.MaxSlots), plain(-1))
	p.check(t)
	if p.heap.Fast(1) {
		t.Error("fast past the limit")
	}
	p.put(t, 1, numbered(200), plain(-2))
	p.put(t, 1, numbered(7), api.Prop{Flags: 9})
	p.check(t)
}

// P15.4: past shape's MaxShapes objects are fast where their shapes are there, else dictionaries.
func TestManyShapes(t *testing.T) {
	h := heap.New(math.MaxInt)
	for n := 1; n < api.MaxShapes; n++ {
		h.Make(0, 0)
		h.Put(n, numbered(n), plain(1))
	}
	if last := api.MaxShapes - 1; !h.Fast(1) || !h.Fast(last) {
		t.Fatal("not fast ahead of the limit")
	}
	put := func(k api.Key, flags int, want bool) int {
		t.Helper()
		o, _ := h.Make(0, 0)
		if e := h.Put(o, k, api.Prop{Value: number(3), Flags: flags}); e != api.OK || h.Fast(o) != want {
			t.Errorf("Put(%x, %d): error %d, Fast %v", k, flags, e, h.Fast(o))
		}
		if p, is := h.Own(o, k); !is || p.Flags != flags {
			t.Errorf("Own(%x): %+v, %v", k, p, is)
		}
		return o
	}
	put(text("new"), 7, false)
	put(numbered(5), 6, false)
	o := put(numbered(5), 7, true)
	h.Put(o, numbered(5), plain(4))
	if p, _ := h.Own(o, numbered(5)); !h.Fast(o) || p != plain(4) {
		t.Errorf("put anew with the same flags: Fast %v, %+v", h.Fast(o), p)
	}
	h.Put(o, numbered(5), api.Prop{Get: number(2), Flags: 8})
	if p, _ := h.Own(o, numbered(5)); h.Fast(o) || p != (api.Prop{Get: number(2), Flags: 8}) {
		t.Errorf("put anew with other flags: Fast %v, %+v", h.Fast(o), p)
	}
	h.Put(6, numbered(5), plain(1))
	if l := h.Keys(6); h.Fast(6) || !slices.Equal(l, []api.Key{numbered(6), numbered(5)}) {
		t.Errorf("a further key: Fast %v, Keys %x", h.Fast(6), l)
	}
	if want := 2*(api.MaxShapes-1+3) + 1; h.Used() != want {
		t.Errorf("Used: %d, not %d", h.Used(), want)
	}
}

// P15.3, P15.4: a Put that is refused takes up no shape, which Fast would tell later (P4).
func TestRefusedPut(t *testing.T) {
	h := heap.New(3)
	h.Make(0, 0)
	h.Make(0, 0)
	h.Put(1, text("a"), plain(1))
	for n := range api.MaxShapes + 1 {
		if e := h.Put(2, numbered(n), plain(1)); e != api.ErrHeap {
			t.Fatalf("Put: error %d", e)
		}
	}
	h.Drop(1, text("a"))
	if e := h.Put(2, text("b"), plain(1)); e != api.OK || !h.Fast(2) {
		t.Errorf("Put: error %d, Fast %v", e, h.Fast(2))
	}
}

// P15.3: objects of a shape are asked by one cache, which counts; those without a shape leave it alone.
func TestBy(t *testing.T) {
	h := heap.New(100)
	for o := 1; o <= 3; o++ {
		h.Make(0, 0)
		h.Put(o, text("a"), plain(float64(o)))
		h.Put(o, text("b"), plain(float64(-o)))
	}
	h.Force(3)
	c := shape.NewCache()
	by := func(o int, k string, want float64, hits, misses int) {
		t.Helper()
		if p, is := h.By(c, o, text(k)); !is || p != plain(want) {
			t.Errorf("By(%d, %s): %+v, %v", o, k, p, is)
		}
		if x, y := c.Asked(); x != hits || y != misses {
			t.Errorf("Asked: %d, %d, not %d, %d", x, y, hits, misses)
		}
	}
	by(1, "a", 1, 0, 1)
	by(2, "a", 2, 1, 1)
	by(3, "a", 3, 1, 1)
	by(1, "a", 1, 2, 1)
	by(1, "b", -1, 2, 2)
	h.Put(1, text("b"), plain(9))
	by(1, "b", 9, 3, 2)
	h.Put(1, text("c"), plain(9))
	by(1, "b", 9, 3, 3)
	h.Own(2, text("b"))
	h.By(c, 4, text("b"))
	by(1, "b", 9, 4, 3)
	c.Flush()
	by(1, "b", 9, 4, 4)
}

// P15.3, P15.6: one cache may be asked with several heaps; nil ones, and ones that nobody made, ask without.
func TestByOfAnyCache(t *testing.T) {
	x, y := newPair(100), newPair(100)
	for i, p := range []pair{x, y} {
		p.make(t, 0, 0)
		for _, k := range [][]string{{"a", "b"}, {"b", "a"}}[i] {
			p.put(t, 1, text(k), api.Prop{Value: number(float64(p.heap.Used())), Flags: i + 1})
		}
	}
	for _, c := range []*shape.Cache{nil, {}, shape.NewCache()} {
		for range 3 {
			for _, k := range []api.Key{text("a"), text("b"), text("c")} {
				x.own(t, c, 1, k)
				y.own(t, c, 1, k)
				y.own(t, c, 1, k)
			}
		}
	}
}

// texts tells where the bytes of a property's texts lie.
func texts(p api.Prop) []*byte {
	var out []*byte
	for _, v := range []api.Value{p.Value, p.Get, p.Set} {
		if v.Str != "" {
			out = append(out, unsafe.StringData(string(v.Str)))
		}
	}
	return out
}

// P15.3: nothing that is kept or answered shares memory with anything else (P2).
func TestMemory(t *testing.T) {
	word := func(s string) api.Value { return api.Value{Kind: api.Text, Str: text(s).Name} }
	modes(t, 100, func(p pair) {
		long := api.Prop{Value: word("value"), Flags: 7}
		both := api.Prop{Get: word("get"), Set: word("set"), Flags: 8}
		k := text("key")
		p.put(t, 1, k, long)
		p.put(t, 1, text("both"), both)
		seen := append(texts(long), texts(both)...)
		seen = append(seen, unsafe.StringData(string(k.Name)))
		for range 3 {
			for _, k := range []api.Key{k, text("both")} {
				x, _ := p.heap.Own(1, k)
				y, _ := p.heap.By(shape.NewCache(), 1, k)
				seen = append(append(seen, texts(x)...), texts(y)...)
			}
			for _, k := range p.heap.Keys(1) {
				seen = append(seen, unsafe.StringData(string(k.Name)))
			}
		}
		for i, x := range seen {
			if slices.Contains(seen[:i], x) {
				t.Errorf("text %d lies where another does", i)
			}
		}
		l := p.heap.Keys(1)
		for i := range l[:cap(l)] {
			l[:cap(l)][i] = api.Key{Sym: 99}
		}
	})
}

// P15.3: what is kept is not what was handed in, whose bytes may be anything later (P2).
func TestNotKept(t *testing.T) {
	modes(t, 100, func(p pair) {
		b := []byte("\x00a\x00b")
		s := api.Str(unsafe.String(&b[0], len(b)))
		word := api.Value{Kind: api.Text, Str: s}
		p.heap.Put(1, api.Key{Name: s}, api.Prop{Value: word})
		p.heap.Put(1, api.Key{Sym: 1}, api.Prop{Get: word, Set: word, Flags: 8})
		copy(b, "\x00c\x00d")
		want := api.Value{Kind: api.Text, Str: text("ab").Name}
		if x, is := p.heap.Own(1, text("ab")); !is || x != (api.Prop{Value: want}) {
			t.Errorf("Own: %+v, %v", x, is)
		}
		if x, is := p.heap.Own(1, api.Key{Sym: 1}); !is || x != (api.Prop{Get: want, Set: want, Flags: 8}) {
			t.Errorf("Own: %+v, %v", x, is)
		}
		if l := p.heap.Keys(1); !slices.Equal(l, []api.Key{text("ab"), {Sym: 1}}) {
			t.Errorf("Keys: %x", l)
		}
		p.heap.Drop(1, text("ab"))
		p.heap.Drop(1, api.Key{Sym: 1})
		p.words.objects[0].slow()
	})
}

// P15.3, P15.4: a dictionary from which much is dropped keeps its order, whatever its size.
func TestGaps(t *testing.T) {
	for _, size := range []int{1, 2, 15, 16, 17, 18, 33, 200} {
		for _, every := range []int{1, 2, 3, 7} {
			p := newPair(1000)
			p.make(t, 0, 0)
			for n := range size {
				p.put(t, 1, numbered(n), plain(float64(n)))
			}
			for n := range size {
				if n%every != 1 {
					p.drop(t, 1, numbered(n))
					p.own(t, nil, 1, numbered(n))
					p.own(t, nil, 1, numbered(size-1))
				}
			}
			p.check(t)
			for n := range size {
				p.put(t, 1, numbered(n), api.Prop{Value: number(float64(-n)), Flags: n % 16})
			}
			p.check(t)
		}
	}
}

// P15.3: a drop takes little time, however many properties there are: a queue of many, gone through many times.
func TestQueue(t *testing.T) {
	const size, turns = 20000, 200000
	h := heap.New(size + 1)
	h.Make(0, 0)
	for n := range size + turns {
		if n >= size && !h.Drop(1, numbered(n-size)) {
			t.Fatalf("Drop of %d", n-size)
		}
		if e := h.Put(1, numbered(n), plain(float64(n))); e != api.OK {
			t.Fatalf("Put of %d: error %d", n, e)
		}
	}
	l := h.Keys(1)
	if len(l) != size || l[0] != numbered(turns) || l[size-1] != numbered(turns+size-1) || h.Used() != size+1 {
		t.Errorf("%d keys, Used %d", len(l), h.Used())
	}
}

// P15.3: what was dropped takes no room, however often.
func TestGapsTakeNoRoom(t *testing.T) {
	h := heap.New(10)
	h.Make(0, 0)
	h.Force(1)
	was := live()
	for n := range 300000 {
		h.Put(1, numbered(n), plain(1))
		h.Drop(1, numbered(n))
	}
	if is := live(); is > was+4<<20 {
		t.Errorf("%d bytes more", is-was)
	}
	h.Put(1, text("a"), plain(1))
}

// live is how many bytes are in use.
func live() uint64 {
	runtime.GC()
	var m runtime.MemStats
	runtime.ReadMemStats(&m)
	return m.HeapAlloc
}
