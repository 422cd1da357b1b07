package heap_test

import (
	"math"
	"math/rand"
	"slices"
	"testing"

	"lintel/api"
	"lintel/heap"
	"lintel/keys"
	"lintel/shape"
)

// wordsHeap is a heap by the document's words: a list of objects, each with a list of properties.
type wordsHeap struct {
	limit   int
	tree    *shape.Tree
	objects []*wordsObject
}

type wordsObject struct {
	class, proto int
	open, fast   bool
	shape        int // while it is fast
	props        []wordsProp
}

type wordsProp struct {
	key  api.Key
	prop api.Prop
}

func newWords(limit int) *wordsHeap { return &wordsHeap{limit: limit, tree: shape.New()} }

// alike: chapter 4's keys, by the bytes of whole units.
func alike(a, b api.Key) bool {
	if a.Sym > 0 || b.Sym > 0 {
		return a.Sym == b.Sym
	}
	return a.Name[:len(a.Name)/2*2] == b.Name[:len(b.Name)/2*2]
}

// counted is p with the fields that count.
func counted(p api.Prop) api.Prop {
	if p.Flags >= 8 {
		return api.Prop{Get: p.Get, Set: p.Set, Flags: p.Flags}
	}
	return api.Prop{Value: p.Value, Flags: p.Flags}
}

func (w *wordsHeap) has(o int) bool { return 1 <= o && o <= len(w.objects) }

func (w *wordsHeap) used() int {
	n := len(w.objects)
	for _, x := range w.objects {
		n += len(x.props)
	}
	return n
}

func (w *wordsHeap) make(class, proto int) (int, api.Errno) {
	switch {
	case class < 0 || class > 6:
		return 0, api.ErrRange
	case proto != 0 && !w.has(proto):
		return 0, api.ErrObject
	case w.used() >= w.limit:
		return 0, api.ErrHeap
	}
	w.objects = append(w.objects, &wordsObject{class: class, proto: proto, open: true, fast: true})
	return len(w.objects), api.OK
}

func (w *wordsHeap) setProto(o, proto int) api.Errno {
	if !w.has(o) || proto != 0 && !w.has(proto) {
		return api.ErrObject
	}
	w.objects[o-1].proto = proto
	return api.OK
}

func (x *wordsObject) place(k api.Key) int {
	return slices.IndexFunc(x.props, func(p wordsProp) bool { return alike(p.key, k) })
}

func (w *wordsHeap) own(o int, k api.Key) (api.Prop, bool) {
	if !w.has(o) || w.objects[o-1].place(k) < 0 {
		return api.Prop{}, false
	}
	x := w.objects[o-1]
	return x.props[x.place(k)].prop, true
}

func (w *wordsHeap) put(o int, k api.Key, p api.Prop) api.Errno {
	if !w.has(o) {
		return api.ErrObject
	}
	if p.Flags < 0 || p.Flags > 15 {
		return api.ErrRange
	}
	x := w.objects[o-1]
	if at := x.place(k); at >= 0 {
		x.props[at].prop = counted(p)
		x.went(w.tree.Change(x.shape, k, p.Flags))
		return api.OK
	}
	if w.used() >= w.limit {
		return api.ErrHeap
	}
	x.props = append(x.props, wordsProp{k, counted(p)})
	x.went(w.tree.Add(x.shape, k, p.Flags))
	return api.OK
}

// went is told what shape's Add or Change answered. (Of a dictionary it is asked for nothing: its shape is one that there never is.)
func (x *wordsObject) went(to int, e api.Errno) {
	x.shape = to
	if e != api.OK {
		x.slow()
	}
}

func (x *wordsObject) slow() { x.shape, x.fast = -1, false }

func (w *wordsHeap) drop(o int, k api.Key) bool {
	if _, is := w.own(o, k); !is {
		return false
	}
	x := w.objects[o-1]
	at := x.place(k)
	x.props = slices.Delete(x.props, at, at+1)
	x.slow()
	return true
}

func (w *wordsHeap) keys(o int) []api.Key {
	var l []api.Key
	if w.has(o) {
		for _, p := range w.objects[o-1].props {
			l = append(l, p.key)
		}
	}
	return keys.Order(l)
}

// pair is a heap and what the words make of it.
type pair struct {
	heap  *heap.Heap
	words *wordsHeap
}

func newPair(limit int) pair { return pair{heap.New(limit), newWords(limit)} }

// make, put, drop, force do a step in both, and hold them against each other.
func (p pair) make(t *testing.T, class, proto int) int {
	t.Helper()
	want, fault := p.words.make(class, proto)
	if got, e := p.heap.Make(class, proto); got != want || e != fault {
		t.Fatalf("Make(%d, %d): %d, error %d, not %d, error %d", class, proto, got, e, want, fault)
	}
	return want
}

func (p pair) setProto(t *testing.T, o, proto int) {
	t.Helper()
	want := p.words.setProto(o, proto)
	if e := p.heap.SetProto(o, proto); e != want {
		t.Fatalf("SetProto(%d, %d): error %d, not %d", o, proto, e, want)
	}
}

func (p pair) shut(t *testing.T, o int) {
	t.Helper()
	want := api.ErrObject
	if p.words.has(o) {
		want = api.OK
		p.words.objects[o-1].open = false
	}
	if e := p.heap.Shut(o); e != want {
		t.Fatalf("Shut(%d): error %d, not %d", o, e, want)
	}
}

func (p pair) put(t *testing.T, o int, k api.Key, x api.Prop) api.Errno {
	t.Helper()
	want := p.words.put(o, k, x)
	if e := p.heap.Put(o, k, x); e != want {
		t.Fatalf("Put(%d, %x, %+v): error %d, not %d", o, k, x, e, want)
	}
	return want
}

func (p pair) drop(t *testing.T, o int, k api.Key) {
	t.Helper()
	want := p.words.drop(o, k)
	if is := p.heap.Drop(o, k); is != want {
		t.Fatalf("Drop(%d, %x): %v", o, k, is)
	}
}

func (p pair) force(t *testing.T, o int) {
	t.Helper()
	want := api.ErrObject
	if p.words.has(o) {
		want = api.OK
		p.words.objects[o-1].slow()
	}
	if e := p.heap.Force(o); e != want {
		t.Fatalf("Force(%d): error %d, not %d", o, e, want)
	}
}

// own holds Own and By against the words.
func (p pair) own(t *testing.T, c *shape.Cache, o int, k api.Key) {
	t.Helper()
	want, there := p.words.own(o, k)
	if got, is := p.heap.Own(o, k); got != want || is != there {
		t.Fatalf("Own(%d, %x): %+v, %v, not %+v, %v", o, k, got, is, want, there)
	}
	if got, is := p.heap.By(c, o, k); got != want || is != there {
		t.Fatalf("By(%d, %x): %+v, %v, not %+v, %v", o, k, got, is, want, there)
	}
}

// check holds everything that is told but by keys that are not there.
func (p pair) check(t *testing.T) {
	t.Helper()
	h, w := p.heap, p.words
	if h.Used() != w.used() || h.Len() != len(w.objects) {
		t.Fatalf("Used, Len: %d, %d, not %d, %d", h.Used(), h.Len(), w.used(), len(w.objects))
	}
	for i, x := range w.objects {
		o := i + 1
		if !h.Has(o) || h.Class(o) != x.class || h.Proto(o) != x.proto || h.Open(o) != x.open || h.Fast(o) != x.fast {
			t.Fatalf("object %d: %v, %d, %d, %v, %v, not %+v", o, h.Has(o), h.Class(o), h.Proto(o), h.Open(o), h.Fast(o), x)
		}
		if got, want := h.Keys(o), w.keys(o); !slices.Equal(got, want) {
			t.Fatalf("Keys(%d): %x, not %x", o, got, want)
		}
		for _, y := range x.props {
			p.own(t, nil, o, y.key)
		}
	}
	p.checkNone(t)
}

// checkNone: of numbers that no object has nothing is told.
func (p pair) checkNone(t *testing.T) {
	t.Helper()
	h := p.heap
	for _, o := range []int{0, -1, math.MinInt, math.MaxInt, len(p.words.objects) + 1} {
		if h.Has(o) || h.Class(o) != 0 || h.Proto(o) != 0 || h.Open(o) || h.Fast(o) || len(h.Keys(o)) != 0 {
			t.Fatalf("something is told of %d", o)
		}
		p.own(t, shape.NewCache(), o, text("a"))
	}
}

// someKeys are keys of all sorts, some of them alike.
func someKeys() []api.Key {
	l := []api.Key{{}, {Name: "x"}, {Sym: 1}, {Sym: 2}, {Sym: 1, Name: text("a").Name}, {Sym: -4}, text("length"), {Name: text("a").Name + "x"}, {Name: text("a").Name, Sym: -1}}
	for _, s := range []string{"a", "b", "c", "0", "1", "2", "10", "01", "4294967294", "4294967295", "-1"} {
		l = append(l, text(s))
	}
	return l
}

func someValue(r *rand.Rand) api.Value {
	return []api.Value{
		{}, {Kind: api.Null}, {Kind: api.Bool, Num: 1}, number(float64(r.Intn(9))), number(math.Copysign(0, -1)),
		{Kind: api.Text, Str: text("text").Name}, {Kind: api.Text}, {Kind: api.Symbol, Ref: 1}, {Kind: api.Object, Ref: r.Intn(5)},
	}[r.Intn(9)]
}

func someProp(r *rand.Rand) api.Prop {
	p := api.Prop{Value: someValue(r), Get: someValue(r), Set: someValue(r), Flags: r.Intn(16)}
	if r.Intn(30) == 0 {
		p.Flags = []int{-1, 16, 17, math.MinInt, math.MaxInt}[r.Intn(5)]
	}
	return p
}

// someObject is an object's number, and now and then one of none.
func someObject(r *rand.Rand, w *wordsHeap) int {
	if r.Intn(20) == 0 {
		return []int{0, -1, len(w.objects) + 1, math.MinInt, math.MaxInt}[r.Intn(5)]
	}
	return 1 + r.Intn(len(w.objects)+1)
}

// step does something in both.
func (p pair) step(t *testing.T, r *rand.Rand, all []api.Key) {
	t.Helper()
	o, k := someObject(r, p.words), all[r.Intn(len(all))]
	switch n := r.Intn(40); {
	case n == 0:
		p.force(t, o)
	case n == 1:
		p.shut(t, o)
	case n < 4:
		p.setProto(t, o, someObject(r, p.words))
	case n < 8:
		p.make(t, r.Intn(9)-1, someObject(r, p.words)*r.Intn(2))
	case n < 16:
		p.drop(t, o, k)
	default:
		p.put(t, o, k, someProp(r))
	}
}

// P15.2 to P15.7: whatever is done, in all orders, in heaps of all sizes.
func TestAgainstTheWords(t *testing.T) {
	r := rand.New(rand.NewSource(15))
	all := someKeys()
	for n := range 300 {
		p := newPair([]int{-1, 0, 1, 2, 5, 20, 60, 1000}[n%8])
		c := shape.NewCache()
		for range 150 {
			p.step(t, r, all)
			p.own(t, c, someObject(r, p.words), all[r.Intn(len(all))])
			if r.Intn(10) == 0 {
				p.check(t)
			}
		}
		p.check(t)
	}
}

// P15.6: of heaps in which the same is done, with Force and caches in one, in the other all at will, the same is told but by Fast.
func TestModesAreNotSeen(t *testing.T) {
	r := rand.New(rand.NewSource(16))
	all := someKeys()
	for n := range 100 {
		limit := []int{5, 20, 60, 1000}[n%4]
		p := newPair(limit)
		forced := heap.New(limit)
		c := shape.NewCache()
		for range 150 {
			o, k, x := someObject(r, p.words), all[r.Intn(len(all))], someProp(r)
			switch r.Intn(6) {
			case 0:
				p.make(t, 0, 0)
				forced.Make(0, 0)
			case 1:
				p.drop(t, o, k)
				forced.Drop(o, k)
			default:
				if want, e := p.put(t, o, k, x), forced.Put(o, k, x); e != want {
					t.Fatalf("Put: error %d, not %d", e, want)
				}
			}
			if r.Intn(3) == 0 {
				forced.Force(o)
			}
			if r.Intn(9) == 0 {
				c.Flush()
			}
			if got, want := forced.Keys(o), p.heap.Keys(o); !slices.Equal(got, want) || forced.Used() != p.heap.Used() {
				t.Fatalf("Keys, Used: %x, %d, not %x, %d", got, forced.Used(), want, p.heap.Used())
			}
			for _, k := range all {
				want, there := p.heap.Own(o, k)
				if got, is := forced.By(c, o, k); got != want || is != there {
					t.Fatalf("By: %+v, %v, not %+v, %v", got, is, want, there)
				}
			}
		}
	}
}
