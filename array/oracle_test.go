package array_test

import (
	"math"
	"math/rand"
	"slices"
	"testing"

	"lintel/api"
	"lintel/array"
	"lintel/heap"
	"lintel/keys"
	"lintel/nums"
	"lintel/object"
)

// The document's words, clause by clause, over a heap and layer 16.

// wordsWhole: whether v is a whole number from 0 to 2^32 - 1.
func wordsWhole(v api.Value) bool {
	return v.Kind == api.Number && v.Num >= 0 && v.Num < 1<<32 && v.Num == math.Floor(v.Num)
}

func wordsLength(h *heap.Heap, o int) (uint32, bool) {
	p, is := h.Own(o, text("length"))
	if !h.Has(o) || h.Class(o) != api.ClassArray || !is || p.Flags >= api.Accessor || !wordsWhole(p.Value) {
		return 0, false
	}
	return uint32(p.Value.Num), true
}

// wordsIsLength: whether k is the text `length`.
func wordsIsLength(k api.Key) bool {
	return k.Sym <= 0 && k.Name[:len(k.Name)/2*2] == text("length").Name
}

// wordsIndices are o's, by number.
func wordsIndices(h *heap.Heap, o int) []uint32 {
	var out []uint32
	for _, k := range h.Keys(o) {
		if i, is := keys.Index(k.Name); is && k.Sym <= 0 {
			out = append(out, i)
		}
	}
	slices.Sort(out)
	return out
}

// wordsPutLength gives `length` another value, and takes flags away.
func wordsPutLength(h *heap.Heap, o int, v api.Value, without int) {
	p, _ := h.Own(o, text("length"))
	p.Value = v
	p.Flags &^= without
	h.Put(o, text("length"), p)
}

func wordsDefine(h *heap.Heap, o int, k api.Key, d api.Desc) (bool, bool, api.Errno) {
	old, is := wordsLength(h, o)
	if !is {
		ok, e := object.Define(h, o, k, d)
		return ok, false, e
	}
	own, _ := h.Own(o, text("length"))
	if wordsIsLength(k) {
		if d.Has&api.HasValue == 0 {
			ok, e := object.Define(h, o, k, d)
			return ok, false, e
		}
		n := d.Prop.Value
		if !wordsWhole(n) {
			return false, true, api.OK
		}
		if n.Num >= float64(old) {
			ok, e := object.Define(h, o, k, d)
			return ok, false, e
		}
		if own.Flags&api.Writable == 0 {
			return false, false, api.OK
		}
		merged, may := object.Merge(own, true, h.Open(o), d)
		if !may {
			return false, false, api.OK
		}
		for _, i := range slices.Backward(wordsIndices(h, o)) {
			if i >= old || float64(i) < n.Num || object.Delete(h, o, keys.Of(i)) {
				continue
			}
			without := 0
			if d.Has&api.HasWritable != 0 && d.Prop.Flags&api.Writable == 0 {
				without = api.Writable
			}
			wordsPutLength(h, o, number(float64(i)+1), without)
			return false, false, api.OK
		}
		h.Put(o, text("length"), merged)
		return true, false, api.OK
	}
	if i, isIndex := keys.Index(k.Name); isIndex && k.Sym <= 0 && i >= old {
		if own.Flags&api.Writable == 0 {
			return false, false, api.OK
		}
		ok, e := object.Define(h, o, k, d)
		if ok {
			wordsPutLength(h, o, number(float64(i)+1), 0)
		}
		return ok, false, e
	}
	ok, e := object.Define(h, o, k, d)
	return ok, false, e
}

func wordsSet(h *heap.Heap, o int, k api.Key, v api.Value, receiver int) (int, api.Value, bool, api.Errno) {
	if !h.Has(o) || !h.Has(receiver) {
		return 0, api.Value{}, false, api.ErrObject
	}
	_, p, is := object.Find(h, o, k)
	if !is {
		p = api.Prop{Flags: api.Writable}
	}
	if p.Flags&api.Accessor != 0 {
		if p.Set.Kind == api.Undefined {
			return api.SetRefused, api.Value{}, false, api.OK
		}
		return api.SetCall, p.Set, false, api.OK
	}
	if p.Flags&api.Writable == 0 {
		return api.SetRefused, api.Value{}, false, api.OK
	}
	own, is := h.Own(receiver, k)
	if is && (own.Flags&api.Accessor != 0 || own.Flags&api.Writable == 0) {
		return api.SetRefused, api.Value{}, false, api.OK
	}
	d := api.Desc{Has: 1, Prop: api.Prop{Value: v}}
	if !is {
		d = api.Desc{Has: 1 | 2 | 16 | 32, Prop: api.Prop{Value: v, Flags: 7}}
	}
	ok, bad, e := wordsDefine(h, receiver, k, d)
	if !ok {
		return api.SetRefused, api.Value{}, bad, e
	}
	return api.SetDone, api.Value{}, bad, e
}

func wordsMake(h *heap.Heap, proto int) (int, api.Errno) {
	o, e := h.Make(api.ClassArray, proto)
	if e == api.OK {
		e = h.Put(o, text("length"), api.Prop{Value: number(0), Flags: api.Writable})
	}
	if e != api.OK {
		return 0, e
	}
	return o, e
}

func wordsList(h *heap.Heap, proto int, l []api.Value) (int, api.Errno) {
	o, e := wordsMake(h, proto)
	if e != api.OK {
		return 0, e
	}
	for i, v := range l {
		if _, _, e := wordsDefine(h, o, keys.Of(uint32(i)), whole(v)); e != api.OK {
			return 0, e
		}
	}
	return o, e
}

func wordsPush(h *heap.Heap, o int, v api.Value) (bool, api.Errno) {
	n, is := wordsLength(h, o)
	if !is || n == 1<<32-1 {
		return false, api.OK
	}
	ok, _, e := wordsDefine(h, o, keys.Of(n), whole(v))
	return ok, e
}

// told is a value with its index.
type told struct {
	i uint32
	v api.Value
}

// wordsEach does body of each, as it is when its turn comes.
func wordsEach(h *heap.Heap, o int, body func(uint32, api.Value) bool) {
	n, _ := wordsLength(h, o)
	for from := uint32(0); ; {
		at := slices.IndexFunc(wordsIndices(h, o), func(i uint32) bool { return from <= i && i < n })
		if at < 0 {
			return
		}
		i := wordsIndices(h, o)[at]
		if p, _ := h.Own(o, keys.Of(i)); p.Flags < api.Accessor && !body(i, p.Value) {
			return
		}
		from = i + 1
	}
}

// sameValue: whether values are the same in all fields; of numbers NaN is one.
func sameValue(a, b api.Value) bool {
	return nums.Same(a.Num, b.Num, api.SameValue) && a.Kind == b.Kind && a.Str == b.Str && a.Ref == b.Ref
}

func sameProp(a, b api.Prop) bool {
	return a.Flags == b.Flags && sameValue(a.Value, b.Value) && sameValue(a.Get, b.Get) && sameValue(a.Set, b.Set)
}

// holdHeaps holds all that a heap tells of its objects against the other's.
func holdHeaps(t *testing.T, got, want *heap.Heap) {
	t.Helper()
	if got.Len() != want.Len() || got.Used() != want.Used() {
		t.Fatalf("Len, Used: %d, %d, not %d, %d", got.Len(), got.Used(), want.Len(), want.Used())
	}
	for o := 1; o <= want.Len(); o++ {
		if got.Open(o) != want.Open(o) || got.Proto(o) != want.Proto(o) || got.Class(o) != want.Class(o) || !slices.Equal(got.Keys(o), want.Keys(o)) {
			t.Fatalf("object %d: open %v, prototype %d, keys %x, not %v, %d, %x", o, got.Open(o), got.Proto(o), got.Keys(o), want.Open(o), want.Proto(o), want.Keys(o))
		}
		for _, k := range want.Keys(o) {
			a, _ := got.Own(o, k)
			if b, _ := want.Own(o, k); !sameProp(a, b) {
				t.Fatalf("object %d, key %x: %+v, not %+v", o, k, a, b)
			}
		}
	}
}

// ways are the calls, by the package or by the words.
type ways struct {
	make   func(*heap.Heap, int) (int, api.Errno)
	length func(*heap.Heap, int) (uint32, bool)
	define func(*heap.Heap, int, api.Key, api.Desc) (bool, bool, api.Errno)
	set    func(*heap.Heap, int, api.Key, api.Value, int) (int, api.Value, bool, api.Errno)
	list   func(*heap.Heap, int, []api.Value) (int, api.Errno)
	push   func(*heap.Heap, int, api.Value) (bool, api.Errno)
	each   func(*heap.Heap, int, func(uint32, api.Value) bool)
}

func byPackage() ways {
	each := func(h *heap.Heap, o int, body func(uint32, api.Value) bool) { array.Each(h, o)(body) }
	return ways{array.Make, array.Length, array.Define, array.Set, array.List, array.Push, each}
}

func byWords() ways {
	return ways{wordsMake, wordsLength, wordsDefine, wordsSet, wordsList, wordsPush, wordsEach}
}

// someKeys are texts and symbols; the indices among them are near to one another and far apart.
func someKeys() []api.Key {
	l := []api.Key{text("length"), {Name: text("length").Name + "\x01"}, {Name: text("length").Name, Sym: 1}, {Name: text("length").Name, Sym: -1}, {Name: text("3").Name, Sym: 2}, text("01"), text("4294967295"), text("a")}
	for _, i := range []uint32{0, 1, 2, 3, 4, 700, 999, 1000, 1001, 1002, 2002, 5000, 4294967293, 4294967294} {
		l = append(l, keys.Of(i))
	}
	return l
}

func someValues() []api.Value {
	return []api.Value{{}, {Kind: api.Null}, {Kind: api.Bool, Num: 1}, number(0), number(math.Copysign(0, -1)), number(1), number(2), number(3), number(5), number(1.5), number(-1), number(999), number(1000), number(2000), number(4294967293), number(4294967294), number(4294967295), number(4294967296), number(math.NaN()), number(math.Inf(1)), {Kind: api.Text, Str: text("3").Name}, {Kind: api.Text, Num: 3}, {Kind: api.Symbol, Ref: 1}, {Kind: api.Object, Ref: 1}, {Kind: 7, Num: 1}}
}

func pick[T any](r *rand.Rand, l []T) T { return l[r.Intn(len(l))] }

// pickKey is `length` or an index more often than another one.
func pickKey(r *rand.Rand) api.Key {
	switch r.Intn(4) {
	case 0:
		return text("length")
	case 1:
		return keys.Of(uint32(r.Intn(5)))
	}
	return pick(r, someKeys())
}

func randomDesc(r *rand.Rand) api.Desc {
	functions := []api.Value{{}, {Kind: api.Object, Ref: 1}}
	d := api.Desc{Has: r.Intn(64), Prop: api.Prop{Value: pick(r, someValues()), Get: pick(r, functions), Set: pick(r, functions), Flags: r.Intn(16)}}
	switch r.Intn(12) {
	case 0, 1:
		d.Has &^= api.HasValue | api.HasWritable
	case 2:
		d.Has |= r.Intn(3) << 6
	case 3, 4, 5, 6:
		return whole(d.Prop.Value)
	case 7, 8:
		return valued(d.Prop.Value)
	default:
		d.Has &^= api.HasGet | api.HasSet
	}
	return d
}

// answers are those of a step, and the length that is told behind it.
type answers struct {
	how         int
	ok, bad     bool
	v           api.Value
	e           api.Errno
	told        []told
	length      uint32
	isAnyLength bool
}

func (a answers) same(b answers) bool {
	return a.how == b.how && a.ok == b.ok && a.bad == b.bad && sameValue(a.v, b.v) && a.e == b.e && a.length == b.length && a.isAnyLength == b.isAnyLength &&
		slices.EqualFunc(a.told, b.told, func(a, b told) bool { return a.i == b.i && sameValue(a.v, b.v) })
}

// step does something to a heap: the same with the same r.
func (w ways) step(h *heap.Heap, r *rand.Rand, raw bool) answers {
	a := answers{}
	o, k := r.Intn(h.Len()+2), pickKey(r)
	switch r.Intn(30) {
	case 0:
		a.how, a.e = w.make(h, r.Intn(h.Len()+2))
	case 1:
		a.how, a.e = w.list(h, r.Intn(h.Len()+2), someValues()[r.Intn(20):][:r.Intn(6)])
	case 2:
		object.SetProto(h, o, r.Intn(h.Len()+2))
	case 3:
		if r.Intn(4) == 0 {
			object.Seal(h, o)
		}
	case 4:
		if r.Intn(4) == 0 {
			object.Freeze(h, o)
		}
	case 5, 6:
		if raw {
			h.Put(o, k, api.Prop{Value: pick(r, someValues()), Flags: r.Intn(16)})
		}
	case 7, 8:
		a.ok = object.Delete(h, o, k)
	case 9, 10, 11:
		a.ok, a.e = w.push(h, o, pick(r, someValues()))
	case 12, 13, 14, 15:
		a.how, a.v, a.bad, a.e = w.set(h, o, k, pick(r, someValues()), r.Intn(h.Len()+2))
	case 16, 17, 18:
		a.how, a.v, a.bad, a.e = w.set(h, o, k, pick(r, someValues()), o)
	case 19, 20:
		w.each(h, o, func(i uint32, v api.Value) bool {
			a.told = append(a.told, told{i, v})
			return r.Intn(20) > 0
		})
	case 21:
		w.each(h, o, func(i uint32, v api.Value) bool { // things change while it goes on
			a.told = append(a.told, told{i, v})
			inner := w
			inner.each = func(*heap.Heap, int, func(uint32, api.Value) bool) {}
			inner.step(h, r, raw)
			return true
		})
	default:
		a.ok, a.bad, a.e = w.define(h, o, k, randomDesc(r))
	}
	a.length, a.isAnyLength = w.length(h, o)
	return a
}

// P17.1 to P17.4: whatever is done, the package answers what the words say, and does it.
func TestAllAtRandom(t *testing.T) {
	for seed := range int64(400) {
		limit := 4 + rand.New(rand.NewSource(seed)).Intn(80)
		got, want := heap.New(limit), heap.New(limit)
		for _, class := range []int{api.ClassObject, api.ClassArray} {
			got.Make(class, 0)
			want.Make(class, 0)
		}
		raw := seed%3 == 0
		for at := range int64(150) {
			a := byPackage().step(got, rand.New(rand.NewSource(seed*1000+at)), raw)
			b := byWords().step(want, rand.New(rand.NewSource(seed*1000+at)), raw)
			if !a.same(b) {
				t.Fatalf("seed %d, step %d: %+v, not %+v", seed, at, a, b)
			}
			holdHeaps(t, got, want)
		}
	}
}

// lengths are those of all arrays, by their numbers.
func lengths(h *heap.Heap) map[int]uint32 {
	out := map[int]uint32{}
	for o := 1; o <= h.Len(); o++ {
		if n, is := array.Length(h, o); is {
			out[o] = n
		}
	}
	return out
}

// anyChange changes something by these calls and object's, and tells whether it may have been a Define of `length`.
func anyChange(h *heap.Heap, r *rand.Rand) bool {
	o, k := r.Intn(h.Len()+2), pickKey(r)
	switch r.Intn(10) {
	case 0:
		array.List(h, 0, someValues()[:r.Intn(8)])
		return false
	case 1, 2:
		array.Push(h, o, pick(r, someValues()))
		return false
	case 3:
		object.Delete(h, o, k)
		return false
	case 4:
		if o > 20 {
			[]func(*heap.Heap, int) api.Errno{object.Seal, object.Freeze}[r.Intn(2)](h, r.Intn(o))
		}
		return false
	case 5, 6, 7:
		array.Set(h, o, k, pick(r, someValues()), r.Intn(h.Len()+2))
	default:
		array.Define(h, o, k, randomDesc(r))
	}
	return wordsIsLength(k)
}

// P17.5: whatever is done by these calls and object's, indices are below the length, which goes down only by Define of `length` (also in a Set of it), and an array stays one.
func TestLengthIsAbove(t *testing.T) {
	shorter := 0
	for seed := range int64(300) {
		r := rand.New(rand.NewSource(seed))
		h := heap.New(5 + r.Intn(200))
		h.Make(api.ClassObject, 0)
		array.List(h, 1, someValues()[:r.Intn(8)])
		for range 200 {
			before := lengths(h)
			isDefine := anyChange(h, r)
			after := lengths(h)
			for o, n := range before {
				now, is := after[o]
				if !is || now < n && !isDefine {
					t.Fatalf("seed %d, array %d: length %d, %v, not %d", seed, o, now, is, n)
				}
				if now < n {
					shorter++
				}
			}
			for o, n := range after {
				if l := wordsIndices(h, o); len(l) > 0 && l[len(l)-1] >= n {
					t.Fatalf("seed %d, array %d: index %d, length %d", seed, o, l[len(l)-1], n)
				}
			}
		}
	}
	if shorter < 100 {
		t.Errorf("a length went down %d times", shorter)
	}
}
