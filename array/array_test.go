package array_test

import (
	"math"
	"slices"
	"testing"
	"unsafe"

	"lintel/api"
	"lintel/array"
	"lintel/heap"
	"lintel/keys"
	"lintel/object"
)

// text is the key of a text of ASCII.
func text(s string) api.Key {
	b := make([]byte, 0, 2*len(s))
	for i := range len(s) {
		b = append(b, 0, s[i])
	}
	return api.Key{Name: api.Str(b)}
}

func number(x float64) api.Value { return api.Value{Kind: api.Number, Num: x} }

const (
	w   = api.Writable
	en  = api.Enumerable
	c   = api.Configurable
	acc = api.Accessor
)

// valued names a value and nothing else.
func valued(v api.Value) api.Desc { return api.Desc{Has: api.HasValue, Prop: api.Prop{Value: v}} }

// whole names a value and all flags, which are set.
func whole(v api.Value) api.Desc {
	return api.Desc{Has: 1 | 2 | 16 | 32, Prop: api.Prop{Value: v, Flags: w | en | c}}
}

// row is an array of n numbers, from 10 on, in a heap of its own.
func row(t *testing.T, n int) (*heap.Heap, int) {
	t.Helper()
	h := heap.New(1 << 20)
	l := make([]api.Value, n)
	for i := range l {
		l[i] = number(float64(10 + i))
	}
	o, e := array.List(h, 0, l)
	if e != api.OK {
		t.Fatalf("List: error %d", e)
	}
	return h, o
}

func holdLength(t *testing.T, h *heap.Heap, o int, want uint32) {
	t.Helper()
	if n, is := array.Length(h, o); n != want || !is {
		t.Errorf("Length: %d, %v, not %d", n, is, want)
	}
}

func holdIndices(t *testing.T, h *heap.Heap, o int, want ...uint32) {
	t.Helper()
	if l := wordsIndices(h, o); !slices.Equal(l, want) {
		t.Errorf("indices: %d, not %d", l, want)
	}
}

func holdDefine(t *testing.T, h *heap.Heap, o int, k api.Key, d api.Desc, want bool) {
	t.Helper()
	if ok, bad, e := array.Define(h, o, k, d); ok != want || bad || e != api.OK {
		t.Errorf("Define(%x, %+v): %v, %v, error %d, not %v", k, d, ok, bad, e, want)
	}
}

// fixElement makes an element one that can't be deleted.
func fixElement(t *testing.T, h *heap.Heap, o int, i uint32) {
	t.Helper()
	holdDefine(t, h, o, keys.Of(i), api.Desc{Has: api.HasConfigurable}, true)
}

// P17.2: the document's example.
func TestExample(t *testing.T) {
	h, o := row(t, 3)
	holdDefine(t, h, o, text("length"), valued(number(1)), true)
	holdLength(t, h, o, 1)
	holdIndices(t, h, o, 0)
	h, o = row(t, 3)
	fixElement(t, h, o, 2)
	holdDefine(t, h, o, text("length"), valued(number(1)), false)
	holdLength(t, h, o, 3)
	holdIndices(t, h, o, 0, 1, 2)
}

// P17.1
func TestMake(t *testing.T) {
	h := heap.New(5)
	h.Make(api.ClassObject, 0)
	o, e := array.Make(h, 1)
	if o != 2 || e != api.OK || h.Class(o) != api.ClassArray || h.Proto(o) != 1 || !h.Open(o) || h.Used() != 3 {
		t.Fatalf("Make: %d, error %d", o, e)
	}
	if p, is := h.Own(o, text("length")); !is || p != (api.Prop{Value: number(0), Flags: w}) {
		t.Errorf("length: %+v, %v", p, is)
	}
	if l := h.Keys(o); !slices.Equal(l, []api.Key{text("length")}) {
		t.Errorf("keys: %x", l)
	}
	holdLength(t, h, o, 0)
	for _, proto := range []int{3, -1, math.MaxInt, math.MinInt} {
		if o, e := array.Make(h, proto); o != 0 || e != api.ErrObject {
			t.Errorf("prototype %d: %d, error %d", proto, o, e)
		}
	}
	if h.Used() != 3 {
		t.Errorf("Used: %d", h.Used())
	}
}

// P17.1: room for nothing, and for the object alone, which is there then.
func TestMakeNoRoom(t *testing.T) {
	h := heap.New(0)
	if o, e := array.Make(h, 0); o != 0 || e != api.ErrHeap || h.Len() != 0 {
		t.Errorf("no room: %d, error %d, %d objects", o, e, h.Len())
	}
	h = heap.New(1)
	if o, e := array.Make(h, 0); o != 0 || e != api.ErrHeap || h.Len() != 1 || h.Used() != 1 || h.Class(1) != api.ClassArray || len(h.Keys(1)) != 0 {
		t.Errorf("room for one: %d, error %d, %d objects", o, e, h.Len())
	}
	if n, is := array.Length(h, 1); n != 0 || is {
		t.Errorf("Length: %d, %v", n, is)
	}
}

// P17.1: which properties are a length, of which objects.
func TestLength(t *testing.T) {
	for class := range 7 {
		h := heap.New(9)
		h.Make(class, 0)
		for _, p := range []struct {
			v    api.Value
			n    uint32
			want bool
		}{
			{number(0), 0, true}, {number(math.Copysign(0, -1)), 0, true}, {number(7), 7, true}, {number(1<<32 - 1), 1<<32 - 1, true},
			{number(1 << 32), 0, false}, {number(-1), 0, false}, {number(0.5), 0, false}, {number(1<<32 - 1.5), 0, false}, {number(math.NaN()), 0, false}, {number(math.Inf(1)), 0, false}, {number(math.Inf(-1)), 0, false}, {number(1<<33 + 1), 0, false},
			{api.Value{}, 0, false}, {api.Value{Kind: api.Null}, 0, false}, {api.Value{Kind: api.Bool, Num: 1}, 0, false}, {api.Value{Kind: api.Text, Str: text("3").Name, Num: 3}, 0, false}, {api.Value{Kind: api.Object, Ref: 1}, 0, false}, {api.Value{Kind: 99, Num: 1}, 0, false},
		} {
			for flags := range 16 {
				h.Put(1, text("length"), api.Prop{Value: p.v, Get: p.v, Set: p.v, Flags: flags})
				want := p.want && class == api.ClassArray && flags < acc
				n, is := array.Length(h, 1)
				if is != want || want && n != p.n || !want && n != 0 {
					t.Errorf("class %d, %+v, flags %d: %d, %v", class, p.v, flags, n, is)
				}
			}
		}
	}
}

// P17.1: a prototype's length is not the array's.
func TestLengthNotOwn(t *testing.T) {
	h, o := row(t, 2)
	bare, _ := h.Make(api.ClassArray, o)
	if n, is := array.Length(h, bare); n != 0 || is {
		t.Errorf("Length: %d, %v", n, is)
	}
}

// P17.2: values that may be no length: a RangeError, whatever else the description names, and whether or not `length` may be written; nothing changes.
func TestDefineNoLength(t *testing.T) {
	for _, v := range []api.Value{number(-1), number(1.5), number(1 << 32), number(math.NaN()), number(math.Inf(1)), number(math.Inf(-1)), number(1<<32 - 0.5), {}, {Kind: api.Null}, {Kind: api.Bool, Num: 1}, {Kind: api.Text, Str: text("1").Name, Num: 1}, {Kind: api.Symbol, Ref: 1}, {Kind: api.Object, Ref: 1}, {Kind: -1, Num: 1}} {
		for _, frozen := range []bool{false, true} {
			h, o := row(t, 3)
			if frozen {
				object.Freeze(h, o)
			}
			for _, has := range []int{1, 1 | 2, 1 | 4, 1 | 16 | 32, 63, 1 | 64, -1} {
				if ok, bad, e := array.Define(h, o, text("length"), api.Desc{Has: has, Prop: api.Prop{Value: v, Flags: 7}}); ok || !bad || e != api.OK {
					t.Errorf("%+v, Has %d: %v, %v, error %d", v, has, ok, bad, e)
				}
			}
			if how, setter, bad, e := array.Set(h, o, text("length"), v, o); how != api.SetRefused || setter != (api.Value{}) || bad == frozen || e != api.OK {
				t.Errorf("Set %+v: %d, %+v, %v, error %d", v, how, setter, bad, e)
			}
			holdLength(t, h, o, 3)
			holdIndices(t, h, o, 0, 1, 2)
		}
	}
}

// P17.2: lengths from 0 to 2^32 - 1 may be; one that is above takes no room.
func TestDefineLengthUp(t *testing.T) {
	h := heap.New(2)
	o, _ := array.Make(h, 0)
	for _, n := range []uint32{0, 1, 1, 4294967294, 4294967295, 4294967295} {
		holdDefine(t, h, o, text("length"), valued(number(float64(n))), true)
		holdLength(t, h, o, n)
	}
	holdDefine(t, h, o, text("length"), api.Desc{Has: 1 | 2, Prop: api.Prop{Value: number(4294967295)}}, true)
	holdDefine(t, h, o, text("length"), valued(number(4294967295)), true) // just what stands there
	holdDefine(t, h, o, text("length"), valued(number(0)), false)
	if p, _ := h.Own(o, text("length")); p != (api.Prop{Value: number(4294967295)}) {
		t.Errorf("length: %+v", p)
	}
	h, o = row(t, 2)
	holdDefine(t, h, o, text("length"), api.Desc{Has: api.HasWritable}, true)
	holdDefine(t, h, o, text("length"), valued(number(3)), false)
	holdDefine(t, h, o, text("length"), valued(number(2)), true)
	holdLength(t, h, o, 2)
}

// P17.2: -0 is a whole number from 0: the value as it was named.
func TestDefineLengthMinusNought(t *testing.T) {
	for _, n := range []int{0, 2} {
		h, o := row(t, n)
		holdDefine(t, h, o, text("length"), valued(number(math.Copysign(0, -1))), true)
		holdLength(t, h, o, 0)
		holdIndices(t, h, o)
		if p, _ := h.Own(o, text("length")); !sameProp(p, api.Prop{Value: number(math.Copysign(0, -1)), Flags: w}) {
			t.Errorf("length: %+v", p)
		}
		if ok, e := array.Push(h, o, number(1)); !ok || e != api.OK {
			t.Errorf("Push: %v, error %d", ok, e)
		}
		holdLength(t, h, o, 1)
	}
}

// P17.2: descriptions of `length` without a value.
func TestDefineLengthFlags(t *testing.T) {
	for _, x := range []struct {
		name string
		d    api.Desc
		want bool
	}{
		{"nothing", api.Desc{}, true},
		{"a value that is not named", api.Desc{Prop: api.Prop{Value: number(1.5), Flags: 7}}, true},
		{"Writable", api.Desc{Has: 2, Prop: api.Prop{Flags: w}}, true},
		{"Enumerable", api.Desc{Has: 16, Prop: api.Prop{Flags: en}}, false},
		{"Configurable", api.Desc{Has: 32, Prop: api.Prop{Flags: c}}, false},
		{"get", api.Desc{Has: 4}, false},
		{"both sorts", api.Desc{Has: 2 | 8}, false},
		{"another bit", api.Desc{Has: 64}, false},
		{"not Writable", api.Desc{Has: 2 | 16 | 32}, true},
		{"Writable again", api.Desc{Has: 2, Prop: api.Prop{Flags: w}}, false},
	} {
		h, o := row(t, 3)
		if x.name == "Writable again" {
			holdDefine(t, h, o, text("length"), api.Desc{Has: 2}, true)
		}
		if ok, bad, e := array.Define(h, o, text("length"), x.d); ok != x.want || bad || e != api.OK {
			t.Errorf("%s: %v, %v, error %d", x.name, ok, bad, e)
		}
		holdLength(t, h, o, 3)
		holdIndices(t, h, o, 0, 1, 2)
	}
}

// P17.2: descriptions with a lesser value that may not be delete nothing.
func TestShortenRefused(t *testing.T) {
	for _, d := range []api.Desc{
		{Has: 1 | 16, Prop: api.Prop{Value: number(1), Flags: en}},
		{Has: 1 | 32, Prop: api.Prop{Value: number(1), Flags: c}},
		{Has: 1 | 4, Prop: api.Prop{Value: number(1)}},
		{Has: 1 | 64, Prop: api.Prop{Value: number(1)}},
	} {
		h, o := row(t, 3)
		holdDefine(t, h, o, text("length"), d, false)
		holdLength(t, h, o, 3)
		holdIndices(t, h, o, 0, 1, 2)
	}
	h, o := row(t, 3)
	holdDefine(t, h, o, text("length"), api.Desc{Has: 2}, true)
	holdDefine(t, h, o, text("length"), valued(number(1)), false)
	holdDefine(t, h, o, text("length"), whole(number(1)), false)
	holdLength(t, h, o, 3)
	holdIndices(t, h, o, 0, 1, 2)
	// One that is not Writable but Configurable could be put in its place: it is no shorter all the same.
	h.Put(o, text("length"), api.Prop{Value: number(3), Flags: c})
	holdDefine(t, h, o, text("length"), whole(number(2)), false)
	holdDefine(t, h, o, text("length"), valued(number(5)), true)
	holdLength(t, h, o, 5)
}

// P17.2: a lesser length, up to each element that can't be deleted, and what becomes of `length`; near and far.
func TestShorten(t *testing.T) {
	for _, size := range []int{1, 2, 5, 999, 1000, 1001, 1500} {
		for _, n := range []int{0, 1, size / 2, size - 1} {
			for _, fixed := range []int{-1, 0, n - 1, n, n + 1, size - 1} {
				for _, has := range []int{1, 1 | 2, 1 | 2 | 16 | 32} {
					for _, flags := range []int{0, w} {
						if n >= size || fixed >= size {
							continue
						}
						h, o := row(t, size)
						want, ok := n, true
						if fixed >= 0 {
							fixElement(t, h, o, uint32(fixed))
							if fixed >= n {
								want, ok = fixed+1, false
							}
						}
						holdDefine(t, h, o, text("length"), api.Desc{Has: has, Prop: api.Prop{Value: number(float64(n)), Flags: flags}}, ok)
						wantFlags := w
						if has > 1 {
							wantFlags = flags
						}
						if p, _ := h.Own(o, text("length")); p != (api.Prop{Value: number(float64(want)), Flags: wantFlags}) {
							t.Errorf("%d of %d, %d fixed: length %+v", n, size, fixed, p)
						}
						if l := wordsIndices(h, o); len(l) != want || h.Used() != want+2 {
							t.Errorf("%d of %d, %d fixed: %d elements, not %d", n, size, fixed, len(l), want)
						}
					}
				}
			}
		}
	}
}

// P17.2: where it stops, just the value and Writable of `length` change; else all that is named.
func TestShortenOtherParts(t *testing.T) {
	for _, fixed := range []bool{false, true} {
		h, o := row(t, 3)
		h.Put(o, text("length"), api.Prop{Value: number(3), Flags: w | c})
		want := api.Prop{Value: number(0), Flags: en}
		if fixed {
			fixElement(t, h, o, 1)
			want = api.Prop{Value: number(2), Flags: c}
		}
		holdDefine(t, h, o, text("length"), api.Desc{Has: 1 | 2 | 16 | 32, Prop: api.Prop{Value: number(0), Flags: en}}, !fixed)
		if p, _ := h.Own(o, text("length")); p != want {
			t.Errorf("%+v, not %+v", p, want)
		}
	}
}

// P17.2: what stands there is deleted whatever it is: accessors, values that may not be written; texts and symbols that are no index stay, and indices from the old length on.
func TestShortenWhat(t *testing.T) {
	h, o := row(t, 2)
	holdDefine(t, h, o, keys.Of(2), api.Desc{Has: 4 | 32, Prop: api.Prop{Flags: c}}, true)
	holdDefine(t, h, o, keys.Of(3), api.Desc{Has: 1 | 32, Prop: api.Prop{Flags: c}}, true)
	others := []api.Key{text("01"), text("4294967295"), text("-1"), text("1.0"), text(""), {Sym: 1}, {Sym: 2, Name: text("1").Name}}
	for _, k := range others {
		holdDefine(t, h, o, k, whole(number(1)), true)
	}
	holdLength(t, h, o, 4)
	h.Put(o, keys.Of(4), api.Prop{Flags: 7})
	h.Put(o, keys.Of(4294967294), api.Prop{})
	holdDefine(t, h, o, text("length"), valued(number(0)), true)
	holdIndices(t, h, o, 4, 4294967294)
	for _, k := range others {
		if _, is := h.Own(o, k); !is {
			t.Errorf("%x is gone", k)
		}
	}
}

// P17.2: indices at, above and below the length; keys that look like one.
func TestDefineIndex(t *testing.T) {
	for _, x := range []struct {
		k    api.Key
		want uint32
	}{
		{keys.Of(0), 3}, {keys.Of(2), 3}, {keys.Of(3), 4}, {keys.Of(4), 5}, {keys.Of(300), 301}, {keys.Of(4294967294), 4294967295},
		{text("4294967295"), 3}, {text("4294967296"), 3}, {text("03"), 3}, {text("3 "), 3}, {text("-3"), 3}, {text(""), 3},
		{api.Key{Name: text("7").Name, Sym: 1}, 3}, {api.Key{Name: text("7").Name, Sym: -1}, 8}, {api.Key{Name: text("7").Name + "x"}, 8},
	} {
		for _, d := range []api.Desc{whole(number(1)), {}, {Has: 4}, {Has: 1 | 16}} {
			h, o := row(t, 3)
			used := h.Used()
			if _, is := h.Own(o, x.k); !is {
				used++
			}
			holdDefine(t, h, o, x.k, d, true)
			holdLength(t, h, o, x.want)
			if h.Used() != used {
				t.Errorf("%x: Used %d, not %d", x.k, h.Used(), used)
			}
			if p, _ := h.Own(o, text("length")); p.Flags != w {
				t.Errorf("%x: flags of length: %d", x.k, p.Flags)
			}
		}
	}
}

// P17.2: what is refused leaves the length: `length` that may not be written, an object that is shut, a description that is none, no room.
func TestDefineIndexRefused(t *testing.T) {
	h, o := row(t, 3)
	holdDefine(t, h, o, text("length"), api.Desc{Has: 2}, true)
	holdDefine(t, h, o, keys.Of(3), whole(number(1)), false)
	holdDefine(t, h, o, keys.Of(4294967294), whole(number(1)), false)
	holdDefine(t, h, o, keys.Of(2), valued(number(1)), true)
	object.Delete(h, o, keys.Of(1))
	holdDefine(t, h, o, keys.Of(1), whole(number(1)), true)
	holdDefine(t, h, o, text("x"), whole(number(1)), true)
	holdLength(t, h, o, 3)
	h, o = row(t, 3)
	h.Shut(o)
	holdDefine(t, h, o, keys.Of(3), whole(number(1)), false)
	holdDefine(t, h, o, keys.Of(2), valued(number(1)), true)
	holdLength(t, h, o, 3)
	h, o = row(t, 3)
	holdDefine(t, h, o, keys.Of(3), api.Desc{Has: 1 | 4}, false)
	holdDefine(t, h, o, keys.Of(3), api.Desc{Has: 64}, false)
	holdLength(t, h, o, 3)
	h = heap.New(3)
	o, _ = array.List(h, 0, []api.Value{number(1)})
	for _, k := range []api.Key{keys.Of(1), keys.Of(9), text("x")} {
		if ok, bad, e := array.Define(h, o, k, whole(number(1))); ok || bad || e != api.ErrHeap {
			t.Errorf("no room: %v, %v, error %d", ok, bad, e)
		}
	}
	if ok, e := array.Push(h, o, number(1)); ok || e != api.ErrHeap {
		t.Errorf("Push, no room: %v, error %d", ok, e)
	}
	if how, v, bad, e := array.Set(h, o, keys.Of(7), number(1), o); how != 0 || v != (api.Value{}) || bad || e != api.ErrHeap {
		t.Errorf("Set, no room: %d, %+v, %v, error %d", how, v, bad, e)
	}
	holdLength(t, h, o, 1)
}

// P17.2: the key `length` is a text; of symbols the name says nothing.
func TestDefineLengthKey(t *testing.T) {
	h, o := row(t, 3)
	holdDefine(t, h, o, api.Key{Name: text("length").Name, Sym: 1}, valued(number(1.5)), true)
	holdDefine(t, h, o, text("Length"), valued(number(0)), true)
	holdDefine(t, h, o, text("lengt"), valued(number(0)), true)
	holdLength(t, h, o, 3)
	holdDefine(t, h, o, api.Key{Name: text("length").Name + "x"}, valued(number(2)), true)
	holdLength(t, h, o, 2)
	holdDefine(t, h, o, api.Key{Name: text("length").Name, Sym: -3}, valued(number(1)), true)
	holdLength(t, h, o, 1)
	holdIndices(t, h, o, 0)
}

// P17.2, P17.4: of what is no array, or has lost its length, as object.Define.
func TestNoArray(t *testing.T) {
	for class := range 7 {
		for _, v := range []api.Value{number(1.5), {Kind: api.Text}} {
			h := heap.New(20)
			h.Make(class, 0)
			h.Put(1, text("length"), api.Prop{Value: v, Flags: w})
			holdDefine(t, h, 1, keys.Of(7), whole(number(1)), true)
			if p, _ := h.Own(1, text("length")); p.Value != v {
				t.Errorf("class %d: length %+v", class, p)
			}
			for range array.Each(h, 1) {
				t.Errorf("class %d: Each", class)
			}
			if ok, e := array.Push(h, 1, v); ok || e != api.OK || h.Used() != 3 {
				t.Errorf("class %d: Push: %v, error %d", class, ok, e)
			}
			holdDefine(t, h, 1, text("length"), valued(number(-5)), true)
			if how, _, bad, e := array.Set(h, 1, text("length"), number(1.5), 1); how != api.SetDone || bad || e != api.OK {
				t.Errorf("class %d: Set: %d, %v, error %d", class, how, bad, e)
			}
			if how, _, bad, e := array.Set(h, 1, text("length"), number(8), 1); how != api.SetDone || bad || e != api.OK {
				t.Errorf("class %d: Set: %d, %v, error %d", class, how, bad, e)
			}
			if n, is := array.Length(h, 1); is != (class == api.ClassArray) || is && n != 8 {
				t.Errorf("class %d: Length: %d, %v", class, n, is)
			}
		}
	}
}

// P17.3
func TestSet(t *testing.T) {
	h, o := row(t, 2)
	holdSet := func(o int, k api.Key, v api.Value, receiver, want int) {
		t.Helper()
		if how, setter, bad, e := array.Set(h, o, k, v, receiver); how != want || setter != (api.Value{}) || bad || e != api.OK {
			t.Errorf("Set(%d, %x, %+v, %d): %d, %+v, %v, error %d, not %d", o, k, v, receiver, how, setter, bad, e, want)
		}
	}
	holdSet(o, keys.Of(5), number(1), o, api.SetDone)
	holdLength(t, h, o, 6)
	if p, _ := h.Own(o, keys.Of(5)); p != (api.Prop{Value: number(1), Flags: 7}) {
		t.Errorf("a new one: %+v", p)
	}
	holdDefine(t, h, o, keys.Of(5), api.Desc{Has: 16}, true)
	holdSet(o, keys.Of(5), number(2), o, api.SetDone)
	if p, _ := h.Own(o, keys.Of(5)); p != (api.Prop{Value: number(2), Flags: w | c}) {
		t.Errorf("one that was there: %+v", p)
	}
	holdSet(o, text("length"), number(1), o, api.SetDone)
	holdIndices(t, h, o, 0)
	fixElement(t, h, o, 0)
	holdSet(o, text("length"), number(0), o, api.SetRefused)
	holdSet(o, text("length"), number(9), o, api.SetDone)
	holdSet(o, text("length"), number(0), o, api.SetRefused) // it goes as far as it can
	holdLength(t, h, o, 1)
	// The receiver is the one that is given the value.
	other, _ := array.Make(h, o)
	plain, _ := h.Make(api.ClassObject, o)
	holdSet(o, keys.Of(3), number(1), other, api.SetDone)
	holdLength(t, h, other, 4)
	holdLength(t, h, o, 1)
	holdSet(other, keys.Of(9), number(1), plain, api.SetDone)
	holdSet(plain, text("length"), number(2.5), plain, api.SetDone) // the prototype's may be written
	holdSet(plain, text("length"), number(2), other, api.SetDone)
	holdLength(t, h, other, 2)
	if how, _, bad, e := array.Set(h, plain, text("length"), number(2.5), other); how != api.SetRefused || !bad || e != api.OK {
		t.Errorf("a length that may not be: %d, %v, error %d", how, bad, e)
	}
	holdDefine(t, h, o, text("length"), api.Desc{Has: 2}, true)
	holdSet(o, keys.Of(1), number(1), o, api.SetRefused)
	holdSet(o, text("length"), number(1), o, api.SetRefused) // not Writable: what it is asked to be does not count
	holdSet(o, text("length"), number(1.5), o, api.SetRefused)
	holdSet(o, text("length"), number(1.5), other, api.SetRefused)
	holdLength(t, h, o, 1)
	h.Shut(other)
	holdSet(other, keys.Of(7), number(1), other, api.SetRefused)
	holdSet(other, text("x"), number(1), other, api.SetRefused)
	holdLength(t, h, other, 2)
}

// P17.3: getters, setters and values that may not be written, along the prototypes and the receiver's own.
func TestSetAsObject(t *testing.T) {
	setter := api.Value{Kind: api.Object, Ref: 1}
	for flags := range 16 {
		for _, set := range []api.Value{{}, setter} {
			for own := range 17 { // of the receiver: 16 is none
				h := heap.New(20)
				h.Make(api.ClassObject, 0)
				proto, _ := array.Make(h, 0)
				o, _ := array.Make(h, proto)
				receiver, _ := array.Make(h, 0)
				h.Put(proto, keys.Of(2), api.Prop{Set: set, Flags: flags})
				if own < 16 {
					array.Define(h, receiver, text("length"), valued(number(3)))
					h.Put(receiver, keys.Of(2), api.Prop{Set: setter, Flags: own})
				}
				want, wantSetter := api.SetRefused, api.Value{}
				switch {
				case flags >= acc && set.Kind == api.Object:
					want, wantSetter = api.SetCall, setter
				case flags < acc && flags&w != 0 && (own == 16 || own < acc && own&w != 0):
					want = api.SetDone
				}
				how, got, bad, e := array.Set(h, o, keys.Of(2), number(5), receiver)
				if how != want || got != wantSetter || bad || e != api.OK {
					t.Errorf("flags %d, %d: %d, %+v, %v, error %d", flags, own, how, got, bad, e)
				}
				if p, _ := h.Own(receiver, keys.Of(2)); (p.Value == number(5)) != (want == api.SetDone) {
					t.Errorf("flags %d, %d: %+v", flags, own, p)
				}
			}
		}
	}
}

// P17.4
func TestList(t *testing.T) {
	for _, size := range []int{0, 1, 3, 126, 127, 128, 129, 3000} {
		h := heap.New(size + 3)
		h.Make(api.ClassObject, 0)
		l := make([]api.Value, size, size+5)
		for i := range l {
			l[i] = someValues()[i%len(someValues())]
		}
		o, e := array.List(h, 1, l)
		if o != 2 || e != api.OK || h.Proto(o) != 1 || h.Used() != size+3 {
			t.Fatalf("List of %d: %d, error %d", size, o, e)
		}
		holdLength(t, h, o, uint32(size))
		for i, v := range l {
			if p, _ := h.Own(o, keys.Of(uint32(i))); !sameProp(p, api.Prop{Value: v, Flags: 7}) {
				t.Errorf("%d of %d: %+v", i, size, p)
			}
		}
		if p, _ := h.Own(o, text("length")); p.Flags != w {
			t.Errorf("flags of length: %d", p.Flags)
		}
		if l := h.Keys(o); len(l) != size+1 || l[size] != text("length") {
			t.Errorf("keys of %d: %x", size, l)
		}
	}
	h := heap.New(9)
	if o, e := array.List(h, 1, nil); o != 0 || e != api.ErrObject || h.Len() != 0 {
		t.Errorf("no prototype: %d, error %d", o, e)
	}
}

// P17.4, P17.5: where the room ends at each place; what is there has a length all the same, above what it has.
func TestListNoRoom(t *testing.T) {
	l := []api.Value{number(1), number(2), number(3)}
	for limit := range 5 {
		h := heap.New(limit)
		if o, e := array.List(h, 0, l); o != 0 || e != api.ErrHeap || h.Used() != limit {
			t.Errorf("room for %d: %d, error %d, Used %d", limit, o, e, h.Used())
		}
		if n, is := array.Length(h, 1); is != (limit >= 2) || is && int(n) != limit-2 {
			t.Errorf("room for %d: Length %d, %v", limit, n, is)
		}
	}
	h := heap.New(5)
	if o, e := array.List(h, 0, l); o != 1 || e != api.OK {
		t.Errorf("room for all: %d, error %d", o, e)
	}
}

// P17.4
func TestPush(t *testing.T) {
	h, o := row(t, 0)
	for i := range uint32(600) {
		if ok, e := array.Push(h, o, number(float64(i))); !ok || e != api.OK {
			t.Fatalf("Push: %v, error %d", ok, e)
		}
		if p, _ := h.Own(o, keys.Of(i)); p != (api.Prop{Value: number(float64(i)), Flags: 7}) {
			t.Fatalf("%d: %+v", i, p)
		}
		holdLength(t, h, o, i+1)
	}
	holdPush := func(want bool) {
		t.Helper()
		if ok, e := array.Push(h, o, number(1)); ok != want || e != api.OK {
			t.Errorf("Push: %v, error %d", ok, e)
		}
	}
	holdDefine(t, h, o, text("length"), valued(number(4294967294)), true)
	holdPush(true)
	holdLength(t, h, o, 4294967295)
	holdPush(false)
	if _, is := h.Own(o, text("4294967295")); is {
		t.Error("beyond the greatest index")
	}
	h, o = row(t, 2)
	holdDefine(t, h, o, text("length"), api.Desc{Has: 2}, true)
	holdPush(false)
	h, o = row(t, 2)
	h.Shut(o)
	holdPush(false)
	h, o = row(t, 2)
	object.Freeze(h, o)
	holdPush(false)
	holdLength(t, h, o, 2)
	// Something that stands at the length already is defined anew, if it may be.
	h, o = row(t, 2)
	h.Put(o, keys.Of(2), api.Prop{Flags: acc | c})
	h.Put(o, keys.Of(3), api.Prop{Flags: acc})
	holdPush(true)
	holdPush(false)
	holdLength(t, h, o, 3)
}

// all is what Each tells.
func all(h *heap.Heap, o int) []told {
	var out []told
	for i, v := range array.Each(h, o) {
		out = append(out, told{i, v})
	}
	return out
}

// P17.4: which properties are told, in which order.
func TestEach(t *testing.T) {
	h, o := row(t, 0)
	for _, i := range []uint32{4294967294, 7, 0, 5000, 1300, 10} {
		holdDefine(t, h, o, keys.Of(i), valued(number(float64(i))), true)
	}
	holdDefine(t, h, o, keys.Of(9), api.Desc{Has: 4 | 16, Prop: api.Prop{Flags: en}}, true)
	holdDefine(t, h, o, keys.Of(1299), api.Desc{}, true)
	for _, k := range []api.Key{text("x"), text("05"), text("4294967295"), {Sym: 1}, {Sym: 2, Name: text("5").Name}} {
		holdDefine(t, h, o, k, whole(number(1)), true)
	}
	want := []told{{0, number(0)}, {7, number(7)}, {10, number(10)}, {1299, api.Value{}}, {1300, number(1300)}, {5000, number(5000)}, {4294967294, number(4294967294)}}
	for range 2 {
		if l := all(h, o); !slices.Equal(l, want) {
			t.Errorf("%v, not %v", l, want)
		}
	}
	h.Force(o)
	if l := all(h, o); !slices.Equal(l, want) {
		t.Errorf("of a dictionary: %v, not %v", l, want)
	}
	h.Put(o, text("length"), api.Prop{Value: number(1300), Flags: w}) // what is from there on is none of its own
	if l := all(h, o); !slices.Equal(l, want[:4]) {
		t.Errorf("below the length: %v, not %v", l, want[:4])
	}
	for n := range 4 {
		var l []told
		for i, v := range array.Each(h, o) {
			l = append(l, told{i, v})
			if len(l) > n {
				break
			}
		}
		if !slices.Equal(l, want[:n+1]) {
			t.Errorf("left: %v, not %v", l, want[:n+1])
		}
	}
	proto := o
	o, _ = array.Make(h, proto)
	holdDefine(t, h, o, text("length"), valued(number(100)), true)
	if l := all(h, o); len(l) != 0 { // a prototype's are not its own
		t.Errorf("of an empty one: %v", l)
	}
}

// P17.4: the length is that of when one begins, each time; what is below it is told as it is when its turn comes.
func TestEachChanges(t *testing.T) {
	h, o := row(t, 3)
	each := array.Each(h, o)
	array.Push(h, o, number(13))
	n := 0
	for i, v := range each {
		if i != uint32(n) || v != number(float64(10+n)) {
			t.Errorf("%d: %+v", i, v)
		}
		n++
		array.Push(h, o, number(float64(13+n)))
	}
	if n != 4 {
		t.Errorf("%d are told, not 4", n)
	}
	n = 0
	for range each {
		n++
	}
	if n != 8 {
		t.Errorf("%d are told, not 8", n)
	}
	var l []told
	for i, v := range each {
		l = append(l, told{i, v})
		switch i {
		case 0:
			object.Delete(h, o, keys.Of(1))
			array.Set(h, o, keys.Of(2), number(99), o)
			array.Define(h, o, keys.Of(3), api.Desc{Has: 4})
		case 5:
			array.Define(h, o, text("length"), valued(number(1)))
		}
	}
	if want := []told{{0, number(10)}, {2, number(99)}, {4, number(14)}, {5, number(15)}}; !slices.Equal(l, want) {
		t.Errorf("%v, not %v", l, want)
	}
	h, o = row(t, 1)
	holdDefine(t, h, o, text("length"), valued(number(9000)), true)
	l = nil
	for i, v := range array.Each(h, o) {
		l = append(l, told{i, v})
		if i == 0 {
			for _, i := range []uint32{8999, 3, 9000} {
				array.Set(h, o, keys.Of(i), number(1), o)
			}
		}
	}
	if want := []told{{0, number(10)}, {3, number(1)}, {8999, number(1)}}; !slices.Equal(l, want) {
		t.Errorf("%v, not %v", l, want)
	}
}

// noHeaps are heaps that nobody made.
func noHeaps() []*heap.Heap {
	made := heap.New(10)
	array.Make(made, 0)
	copied := *made
	return []*heap.Heap{nil, {}, &copied}
}

// P17.1 to P17.4: heaps that nobody made, and objects that are not there.
func TestNothingThere(t *testing.T) {
	made := heap.New(10)
	array.Make(made, 0)
	for i, h := range append(noHeaps(), made) {
		if h != made {
			for _, proto := range []int{0, 1, -1} {
				if o, e := array.Make(h, proto); o != 0 || e != api.ErrObject {
					t.Errorf("%d: Make: %d, error %d", i, o, e)
				}
				if o, e := array.List(h, proto, []api.Value{{}}); o != 0 || e != api.ErrObject {
					t.Errorf("%d: List: %d, error %d", i, o, e)
				}
			}
		}
		for _, o := range []int{0, -1, 2, 1, math.MinInt, math.MaxInt} {
			if h == made && o == 1 {
				continue
			}
			if n, is := array.Length(h, o); n != 0 || is {
				t.Errorf("%d: Length of %d: %d, %v", i, o, n, is)
			}
			for _, k := range someKeys() {
				if ok, bad, e := array.Define(h, o, k, whole(number(1.5))); ok || bad || e != api.ErrObject {
					t.Errorf("%d: Define of %d: %v, %v, error %d", i, o, ok, bad, e)
				}
				for _, l := range [][2]int{{o, 1}, {1, o}, {o, o}} {
					if how, v, bad, e := array.Set(h, l[0], k, number(1.5), l[1]); how != 0 || v != (api.Value{}) || bad || e != api.ErrObject {
						t.Errorf("%d: Set of %d: %d, %+v, %v, error %d", i, l, how, v, bad, e)
					}
				}
			}
			if ok, e := array.Push(h, o, number(1)); ok || e != api.OK {
				t.Errorf("%d: Push to %d: %v, error %d", i, o, ok, e)
			}
			if l := all(h, o); len(l) != 0 {
				t.Errorf("%d: Each of %d: %v", i, o, l)
			}
		}
	}
	if made.Used() != 2 {
		t.Errorf("Used: %d", made.Used())
	}
}

// P2: nothing that is answered or kept shares memory with an argument or another answer; a list that is handed in stays as it is.
func TestMemory(t *testing.T) {
	v := func() api.Value { return api.Value{Kind: api.Text, Str: text("a long text of its own").Name} }
	at := func(v api.Value) *byte { return unsafe.StringData(string(v.Str)) }
	h := heap.New(20)
	l := []api.Value{v(), number(1)}
	o, _ := array.List(h, 0, l)
	for _, x := range array.Each(h, o) {
		for _, y := range array.Each(h, o) {
			if x.Kind == api.Text && y.Kind == api.Text && (at(x) == at(y) || at(x) == at(l[0])) {
				t.Error("Each shares memory")
			}
		}
	}
	if l[0] != v() || l[1] != number(1) {
		t.Errorf("the list: %v", l)
	}
	l[0].Num = 5
	if p, _ := h.Own(o, keys.Of(0)); p.Value != v() {
		t.Errorf("kept: %+v", p)
	}
	array.Define(h, o, text("y"), api.Desc{Has: 8, Prop: api.Prop{Set: v()}})
	_, s, _, _ := array.Set(h, o, text("y"), v(), o)
	if _, again, _, _ := array.Set(h, o, text("y"), v(), o); at(s) == at(again) || s != again {
		t.Error("two answers of Set share memory")
	}
}

// P1: lengths far above the number of elements, and elements taken off one by one, are done at once.
func TestFarAndMany(t *testing.T) {
	h, o := row(t, 3)
	for range 1000 {
		holdDefine(t, h, o, keys.Of(4294967294), whole(number(1)), true)
		holdDefine(t, h, o, text("length"), valued(number(3)), true)
	}
	if l := all(h, o); len(l) != 3 {
		t.Errorf("%v", l)
	}
	const many = 100000
	h, o = row(t, many)
	n := 0
	for range array.Each(h, o) {
		n++
	}
	if n != many {
		t.Errorf("%d are told", n)
	}
	for i := range many - 10 {
		if ok, _, _ := array.Define(h, o, text("length"), valued(number(float64(many-1-i)))); !ok {
			t.Fatal("shorter by one")
		}
	}
	holdIndices(t, h, o, 0, 1, 2, 3, 4, 5, 6, 7, 8, 9)
}
