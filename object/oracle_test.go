package object_test

import (
	"math"
	"math/rand"
	"slices"
	"testing"

	"lintel/api"
	"lintel/heap"
	"lintel/keys"
	"lintel/nums"
	"lintel/object"
)

// The document's words, clause by clause, over a heap.

func wordsAlike(a, b api.Value) bool {
	switch {
	case a.Kind != b.Kind:
		return false
	case a.Kind == api.Number:
		return nums.Same(a.Num, b.Num, api.SameValue)
	case a.Kind == api.Bool:
		return a.Num == b.Num
	case a.Kind == api.Text:
		return a.Str[:len(a.Str)/2*2] == b.Str[:len(b.Str)/2*2]
	case a.Kind == api.Symbol || a.Kind == api.Object:
		return a.Ref == b.Ref
	}
	return true
}

// wordsTaken is p with what d names.
func wordsTaken(p api.Prop, d api.Desc) api.Prop {
	if d.Has&1 != 0 {
		p.Value = d.Prop.Value
	}
	if d.Has&4 != 0 {
		p.Get = d.Prop.Get
	}
	if d.Has&8 != 0 {
		p.Set = d.Prop.Set
	}
	for has, flag := range map[int]int{2: api.Writable, 16: api.Enumerable, 32: api.Configurable} {
		if d.Has&has != 0 {
			p.Flags = p.Flags&^flag | d.Prop.Flags&flag
		}
	}
	return p
}

func wordsMerge(was api.Prop, is, open bool, d api.Desc) (api.Prop, bool) {
	names := func(has int) bool { return d.Has&has != 0 }
	sets := func(flag int) bool { return d.Prop.Flags&flag != 0 }
	had := func(flag int) bool { return was.Flags&flag != 0 }
	if names(1|2) && names(4|8) || d.Has < 0 || d.Has > 63 {
		return api.Prop{}, false
	}
	fresh := api.Prop{}
	if names(4 | 8) {
		fresh.Flags = api.Accessor
	}
	if !is {
		if !open {
			return api.Prop{}, false
		}
		return wordsTaken(fresh, d), true
	}
	other := had(api.Accessor) && names(1|2) || !had(api.Accessor) && names(4|8)
	if had(api.Configurable) {
		if other {
			fresh.Flags |= was.Flags & (api.Enumerable | api.Configurable)
			return wordsTaken(fresh, d), true
		}
		return wordsTaken(was, d), true
	}
	switch {
	case names(32) && sets(api.Configurable), names(16) && sets(api.Enumerable) != had(api.Enumerable), other:
		return api.Prop{}, false
	case had(api.Accessor) && (names(4) && !wordsAlike(was.Get, d.Prop.Get) || names(8) && !wordsAlike(was.Set, d.Prop.Set)):
		return api.Prop{}, false
	case !had(api.Accessor) && !had(api.Writable) && (names(2) && sets(api.Writable) || names(1) && !wordsAlike(was.Value, d.Prop.Value)):
		return api.Prop{}, false
	}
	return wordsTaken(was, d), true
}

func wordsDefine(h *heap.Heap, o int, k api.Key, d api.Desc) (bool, api.Errno) {
	if !h.Has(o) {
		return false, api.ErrObject
	}
	was, is := h.Own(o, k)
	p, ok := wordsMerge(was, is, h.Open(o), d)
	if !ok {
		return false, api.OK
	}
	e := h.Put(o, k, p)
	return e == api.OK, e
}

// wordsRow is o and its prototypes, the first 1000.
func wordsRow(h *heap.Heap, o int) []int {
	var out []int
	for len(out) < 1000 && h.Has(o) {
		out = append(out, o)
		o = h.Proto(o)
	}
	return out
}

func wordsFind(h *heap.Heap, o int, k api.Key) (int, api.Prop, bool) {
	for _, at := range wordsRow(h, o) {
		if p, is := h.Own(at, k); is {
			return at, p, true
		}
	}
	return 0, api.Prop{}, false
}

func wordsSet(h *heap.Heap, o int, k api.Key, v api.Value, receiver int) (int, api.Value, api.Errno) {
	refused := func() (int, api.Value, api.Errno) { return api.SetRefused, api.Value{}, api.OK }
	if !h.Has(o) || !h.Has(receiver) {
		return 0, api.Value{}, api.ErrObject
	}
	_, p, is := wordsFind(h, o, k)
	if !is {
		p = api.Prop{Flags: api.Writable}
	}
	if p.Flags&api.Accessor != 0 {
		if p.Set.Kind == api.Undefined {
			return refused()
		}
		return api.SetCall, p.Set, api.OK
	}
	if p.Flags&api.Writable == 0 {
		return refused()
	}
	own, is := h.Own(receiver, k)
	if is {
		if own.Flags&api.Accessor != 0 || own.Flags&api.Writable == 0 {
			return refused()
		}
		own.Value = v
	} else {
		if !h.Open(receiver) {
			return refused()
		}
		own = api.Prop{Value: v, Flags: 7}
	}
	if e := h.Put(receiver, k, own); e != api.OK {
		return 0, api.Value{}, e
	}
	return api.SetDone, api.Value{}, api.OK
}

func wordsDelete(h *heap.Heap, o int, k api.Key) bool {
	p, is := h.Own(o, k)
	if !is {
		return true
	}
	return p.Flags&api.Configurable != 0 && h.Drop(o, k)
}

func wordsSetProto(h *heap.Heap, o, proto int) bool {
	if !h.Has(o) || proto != 0 && !h.Has(proto) {
		return false
	}
	if h.Proto(o) == proto {
		return true
	}
	if !h.Open(o) || slices.Contains(wordsRow(h, proto), o) {
		return false
	}
	return h.SetProto(o, proto) == api.OK
}

func wordsSeal(h *heap.Heap, o int) api.Errno {
	for _, k := range h.Keys(o) {
		p, _ := h.Own(o, k)
		p.Flags &^= api.Configurable
		h.Put(o, k, p)
	}
	return h.Shut(o)
}

func wordsFreeze(h *heap.Heap, o int) api.Errno {
	for _, k := range h.Keys(o) {
		if p, _ := h.Own(o, k); p.Flags < api.Accessor {
			p.Flags &^= api.Writable
			h.Put(o, k, p)
		}
	}
	return wordsSeal(h, o)
}

func wordsSealed(h *heap.Heap, o int) bool {
	return h.Has(o) && !h.Open(o) && !slices.ContainsFunc(h.Keys(o), func(k api.Key) bool {
		p, _ := h.Own(o, k)
		return p.Flags&api.Configurable != 0
	})
}

func wordsFrozen(h *heap.Heap, o int) bool {
	return wordsSealed(h, o) && !slices.ContainsFunc(h.Keys(o), func(k api.Key) bool {
		p, _ := h.Own(o, k)
		return p.Flags&(api.Accessor|api.Writable) == api.Writable
	})
}

// sameValue: whether values are the same in all fields; of numbers NaN is one.
func sameValue(a, b api.Value) bool {
	return nums.Same(a.Num, b.Num, api.SameValue) && a.Kind == b.Kind && a.Str == b.Str && a.Ref == b.Ref
}

func sameProp(a, b api.Prop) bool {
	return a.Flags == b.Flags && sameValue(a.Value, b.Value) && sameValue(a.Get, b.Get) && sameValue(a.Set, b.Set)
}

// holdHeaps holds all that a heap tells of its objects against the other's.
func holdHeaps(t *testing.T, got, want *heap.Heap) {
	t.Helper()
	if got.Len() != want.Len() || got.Used() != want.Used() {
		t.Fatalf("Len, Used: %d, %d, not %d, %d", got.Len(), got.Used(), want.Len(), want.Used())
	}
	for o := 1; o <= want.Len(); o++ {
		if got.Open(o) != want.Open(o) || got.Proto(o) != want.Proto(o) || got.Class(o) != want.Class(o) || !slices.Equal(got.Keys(o), want.Keys(o)) {
			t.Fatalf("object %d: open %v, prototype %d, keys %x, not %v, %d, %x", o, got.Open(o), got.Proto(o), got.Keys(o), want.Open(o), want.Proto(o), want.Keys(o))
		}
		for _, k := range want.Keys(o) {
			a, _ := got.Own(o, k)
			if b, _ := want.Own(o, k); !sameProp(a, b) {
				t.Fatalf("object %d, key %x: %+v, not %+v", o, k, a, b)
			}
		}
	}
}

// pair is a heap that the package changes and one that the words change.
type pair struct{ got, want *heap.Heap }

func newPair(limit, objects int) pair {
	p := pair{heap.New(limit), heap.New(limit)}
	for range objects {
		p.got.Make(0, 0)
		p.want.Make(0, 0)
	}
	return p
}

func (p pair) put(o int, k api.Key, prop api.Prop) {
	p.got.Put(o, k, prop)
	p.want.Put(o, k, prop)
}

func (p pair) define(t *testing.T, o int, k api.Key, d api.Desc) bool {
	t.Helper()
	ok, e := object.Define(p.got, o, k, d)
	if wantOk, wantE := wordsDefine(p.want, o, k, d); ok != wantOk || e != wantE {
		t.Fatalf("Define(%d, %x, %+v): %v, error %d, not %v, %d", o, k, d, ok, e, wantOk, wantE)
	}
	return ok
}

func (p pair) set(t *testing.T, o int, k api.Key, v api.Value, receiver int) int {
	t.Helper()
	how, setter, e := object.Set(p.got, o, k, v, receiver)
	if wantHow, wantSetter, wantE := wordsSet(p.want, o, k, v, receiver); how != wantHow || !sameValue(setter, wantSetter) || e != wantE {
		t.Fatalf("Set(%d, %x, %+v, %d): %d, %+v, error %d, not %d, %+v, %d", o, k, v, receiver, how, setter, e, wantHow, wantSetter, wantE)
	}
	return how
}

func (p pair) delete(t *testing.T, o int, k api.Key) bool {
	t.Helper()
	ok := object.Delete(p.got, o, k)
	if want := wordsDelete(p.want, o, k); ok != want {
		t.Fatalf("Delete(%d, %x): %v", o, k, ok)
	}
	return ok
}

func (p pair) setProto(t *testing.T, o, proto int) bool {
	t.Helper()
	ok := object.SetProto(p.got, o, proto)
	if want := wordsSetProto(p.want, o, proto); ok != want {
		t.Fatalf("SetProto(%d, %d): %v", o, proto, ok)
	}
	return ok
}

func (p pair) seal(t *testing.T, o int) {
	t.Helper()
	if e, want := object.Seal(p.got, o), wordsSeal(p.want, o); e != want {
		t.Fatalf("Seal(%d): error %d, not %d", o, e, want)
	}
}

func (p pair) freeze(t *testing.T, o int) {
	t.Helper()
	if e, want := object.Freeze(p.got, o), wordsFreeze(p.want, o); e != want {
		t.Fatalf("Freeze(%d): error %d, not %d", o, e, want)
	}
}

// check holds all that is told.
func (p pair) check(t *testing.T) {
	t.Helper()
	holdHeaps(t, p.got, p.want)
	for o := -1; o <= p.want.Len()+1; o++ {
		for _, k := range someKeys() {
			at, prop, is := object.Find(p.got, o, k)
			if wantAt, want, wantIs := wordsFind(p.want, o, k); at != wantAt || !sameProp(prop, want) || is != wantIs {
				t.Fatalf("Find(%d, %x): %d, %+v, %v, not %d, %+v, %v", o, k, at, prop, is, wantAt, want, wantIs)
			}
		}
		if is, want := object.Sealed(p.got, o), wordsSealed(p.want, o); is != want {
			t.Fatalf("Sealed(%d): %v", o, is)
		}
		if is, want := object.Frozen(p.got, o), wordsFrozen(p.want, o); is != want {
			t.Fatalf("Frozen(%d): %v", o, is)
		}
	}
}

func someKeys() []api.Key {
	return []api.Key{text("a"), text("b"), keys.Of(7), {Sym: 1}, {Name: text("a").Name, Sym: 2}}
}

func someValues() []api.Value {
	return []api.Value{{}, {Kind: api.Null}, {Kind: api.Bool}, {Kind: api.Bool, Num: 1}, number(0), number(math.Copysign(0, -1)), number(1), number(math.NaN()), {Kind: api.Text}, {Kind: api.Text, Str: text("a").Name}, {Kind: api.Symbol, Ref: 1}, {Kind: api.Symbol, Ref: 2}, reference(1), reference(2)}
}

func pick[T any](r *rand.Rand, l []T) T { return l[r.Intn(len(l))] }

func randomDesc(r *rand.Rand) api.Desc {
	functions := []api.Value{{}, reference(1), reference(2)}
	d := api.Desc{Has: r.Intn(64), Prop: api.Prop{Value: pick(r, someValues()), Get: pick(r, functions), Set: pick(r, functions), Flags: r.Intn(16)}}
	switch r.Intn(8) {
	case 0, 1, 2:
		d.Has &^= api.HasGet | api.HasSet
	case 3, 4, 5:
		d.Has &^= api.HasValue | api.HasWritable
	case 6:
		d.Has |= r.Intn(3) << 6
	}
	return d
}

// randomProp is one that heap.Put takes.
func randomProp(r *rand.Rand) api.Prop { return randomDesc(r).Prop }

// step does something to both heaps.
func (p pair) step(t *testing.T, r *rand.Rand) {
	o, k := r.Intn(p.want.Len()+3)-1, pick(r, someKeys())
	switch r.Intn(24) {
	case 0:
		p.got.Make(0, 0)
		p.want.Make(0, 0)
	case 1:
		p.got.Force(o)
	case 2:
		p.put(o, k, randomProp(r))
	case 3:
		p.seal(t, o)
	case 4:
		p.freeze(t, o)
	case 5, 6, 7, 8:
		p.setProto(t, o, r.Intn(p.want.Len()+3)-1)
	case 9, 10, 11:
		p.delete(t, o, k)
	case 12, 13, 14, 15, 16:
		p.set(t, o, k, pick(r, someValues()), r.Intn(p.want.Len()+3)-1)
	case 17:
		p.set(t, o, k, pick(r, someValues()), o)
	default:
		p.define(t, o, k, randomDesc(r))
	}
}

// P16.1 to P16.5: whatever is done, both heaps stay the same.
func TestAllAtRandom(t *testing.T) {
	for seed := range int64(400) {
		r := rand.New(rand.NewSource(seed))
		p := newPair(4+r.Intn(30), 3)
		for range 150 {
			p.step(t, r)
			p.check(t)
		}
	}
}
