package iterate_test

import (
	"math/rand"
	"slices"
	"testing"

	"lintel/api"
	"lintel/heap"
	"lintel/iterate"
	"lintel/object"
)

// The document's words, clause by clause, over a heap.

// words is an enumeration: the objects that it has come to, with the keys that each had then.
type words struct {
	h       *heap.Heap
	objects []int
	rows    [][]api.Key
	place   int // in the last row
	looked  int
	ended   bool
}

func wordsNew(h *heap.Heap, o int) *words {
	w := &words{h: h}
	w.come(o)
	return w
}

func (w *words) come(o int) {
	if len(w.objects) == 1000 || !w.h.Has(o) {
		w.ended = true
		return
	}
	w.objects, w.rows, w.place = append(w.objects, o), append(w.rows, w.h.Keys(o)), 0
}

func (w *words) next() (api.Key, bool) {
	for !w.ended {
		last := len(w.objects) - 1
		if w.place == len(w.rows[last]) {
			w.come(w.h.Proto(w.objects[last]))
			continue
		}
		k := w.rows[last][w.place]
		w.place++
		w.looked++
		p, is := w.h.Own(w.objects[last], k)
		ahead := slices.ContainsFunc(w.rows[:last], func(row []api.Key) bool { return slices.Contains(row, k) })
		if k.Sym == 0 && is && p.Flags&api.Enumerable != 0 && !ahead {
			return k, true
		}
	}
	return api.Key{}, false
}

func wordsKeys(h *heap.Heap, o int) []api.Key {
	var out []api.Key
	w := wordsNew(h, o)
	for k, is := w.next(); is; k, is = w.next() {
		out = append(out, k)
	}
	return out
}

func wordsOwn(h *heap.Heap, o int) []api.Key {
	return slices.DeleteFunc(h.Keys(o), func(k api.Key) bool {
		p, _ := h.Own(o, k)
		return k.Sym != 0 || p.Flags&api.Enumerable == 0
	})
}

// twin is an enumeration beside the words' one, and what it has told.
type twin struct {
	got  *iterate.Enum
	want *words
	told []api.Key
}

func newTwin(h *heap.Heap, o int) *twin {
	return &twin{got: iterate.New(h, o), want: wordsNew(h, o)}
}

// next holds the next key, and that none is told twice.
func (x *twin) next(t *testing.T) bool {
	t.Helper()
	k, is := x.got.Next()
	if want, wantIs := x.want.next(); k != want || is != wantIs {
		t.Fatalf("Next behind %x: %x, %v, not %x, %v", x.told, k, is, want, wantIs)
	}
	if x.got.Looked() != x.want.looked {
		t.Fatalf("Looked behind %x: %d, not %d", x.told, x.got.Looked(), x.want.looked)
	}
	if is && slices.Contains(x.told, k) {
		t.Fatalf("%x is told twice", k)
	}
	if is {
		x.told = append(x.told, k)
	}
	return is
}

func someKeys() []api.Key {
	return []api.Key{text("a"), text("b"), text("c"), text("2"), text("10"), text("-1"), {}, {Sym: 1}, {Sym: 2}, {Name: text("a").Name, Sym: 2}, {Name: text("b").Name, Sym: -2}, {Name: text("a").Name + "x"}}
}

func pick[T any](r *rand.Rand, l []T) T { return l[r.Intn(len(l))] }

// step does something to the heap. Circles come of what is done to prototypes just with round.
func step(h *heap.Heap, r *rand.Rand, round bool) {
	o, to, k := r.Intn(h.Len()+3)-1, r.Intn(h.Len()+3)-1, pick(r, someKeys())
	switch r.Intn(16) {
	case 0:
		h.Make(r.Intn(7), to)
	case 1:
		h.Force(o)
	case 2, 3:
		if round {
			h.SetProto(o, to)
		} else {
			object.SetProto(h, o, to)
		}
	case 4, 5, 6, 7:
		h.Drop(o, k)
	default:
		h.Put(o, k, api.Prop{Flags: r.Intn(16)})
	}
}

// P20.1, P20.2, P20.4: several enumerations of one heap go on, while everything changes.
func TestAllAtRandom(t *testing.T) {
	for seed := range int64(1500) {
		r := rand.New(rand.NewSource(seed))
		h := heap.New(20 + r.Intn(60))
		for range 40 {
			step(h, r, seed%3 == 0)
		}
		var l []*twin
		for range 250 {
			switch {
			case len(l) == 0 || r.Intn(12) == 0:
				l = append(l, newTwin(h, r.Intn(h.Len()+3)-1))
			case r.Intn(5) < 2:
				step(h, r, seed%3 == 0)
			default:
				pick(r, l).next(t)
			}
		}
		for _, x := range l {
			for x.next(t) {
			}
			x.next(t)
		}
	}
}

// holdStill holds Keys, Own and an enumeration of a heap that nothing changes.
func holdStill(t *testing.T, h *heap.Heap, o int) {
	t.Helper()
	keys, own := iterate.Keys(h, o), iterate.Own(h, o)
	if want := wordsKeys(h, o); !slices.Equal(keys, want) {
		t.Fatalf("Keys(%d): %x, not %x", o, keys, want)
	}
	if want := wordsOwn(h, o); !slices.Equal(own, want) {
		t.Fatalf("Own(%d): %x, not %x", o, own, want)
	}
	if len(own) > len(keys) || !slices.Equal(keys[:len(own)], own) {
		t.Fatalf("Own(%d): %x is no beginning of %x", o, own, keys)
	}
	x := newTwin(h, o)
	for x.next(t) {
	}
	if !slices.Equal(x.told, keys) {
		t.Fatalf("Next tells %x of %d, not Keys %x", x.told, o, keys)
	}
}

// P20.3, P20.5: heaps as they come; and nothing of them changes.
func TestStillAtRandom(t *testing.T) {
	for seed := range int64(300) {
		r := rand.New(rand.NewSource(seed))
		h := heap.New(10 + r.Intn(60))
		for range 150 {
			step(h, r, seed%3 == 0)
		}
		was := snapshot(h)
		for o := -1; o <= h.Len()+1; o++ {
			holdStill(t, h, o)
		}
		if is := snapshot(h); !slices.EqualFunc(is, was, slices.Equal) {
			t.Fatalf("the heap has changed: %v, not %v", is, was)
		}
	}
}

// snapshot is what a heap tells of its objects, as numbers.
func snapshot(h *heap.Heap) [][]int {
	out := [][]int{{h.Len(), h.Used()}}
	for o := 1; o <= h.Len(); o++ {
		row := []int{h.Class(o), h.Proto(o), toInt(h.Open(o)), toInt(h.Fast(o))}
		for _, k := range h.Keys(o) {
			p, _ := h.Own(o, k)
			row = append(row, slices.Index(someKeys(), k), p.Flags)
		}
		out = append(out, row)
	}
	return out
}

func toInt(is bool) int {
	if is {
		return 1
	}
	return 0
}

// P20.4: as it says, not as P20.2: a key is added that was nowhere, or goes everywhere, along prototypes in no circle.
func TestOnceAtRandom(t *testing.T) {
	for seed := range int64(400) {
		r := rand.New(rand.NewSource(seed))
		h := heap.New(1000)
		for o := range 4 {
			h.Make(0, o)
		}
		for range 30 {
			h.Put(1+r.Intn(4), numbered(r.Intn(20)), plain())
		}
		e := iterate.New(h, 4)
		var told, late, gone []api.Key
		for k, is := e.Next(); is; k, is = e.Next() {
			if slices.Contains(told, k) || slices.Contains(late, k) || slices.Contains(gone, k) {
				t.Fatalf("%x is told behind %x; late %x, gone %x", k, told, late, gone)
			}
			told = append(told, k)
			late = append(late, numbered(100+len(late)))
			h.Put(4, late[len(late)-1], plain())
			goes := numbered(r.Intn(20))
			gone = append(gone, goes)
			for o := 1; o <= 4; o++ {
				h.Drop(o, goes)
			}
		}
	}
}
