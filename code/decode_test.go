package code_test

import (
	"bytes"
	"math"
	"slices"
	"strings"
	"testing"

	"lintel/api"
	"lintel/code"
)

// refused says that these are bytes of no module.
func refused(t *testing.T, name, b string) {
	t.Helper()
	if m, e := code.Decode([]byte(b)); e != api.ErrCode || m.Fns != nil {
		t.Errorf("%s: %q: %v, error %d", name, b, m, e)
	}
}

// P11.3: bytes that nearly are a module's.
func TestDecodeWrong(t *testing.T) {
	const ahead, zeros = "LNT1\x01\x00\x00\x00\x00\x00", "\x00\x00\x00\x00\x00\x00\x00\x00\x00"
	for _, x := range []struct{ name, b string }{
		{"nothing", ""}, {"no function", "LNT1\x00"}, {"no function, and more", "LNT1\x00" + zeros}, {"another word", "LNT2\x01" + zeros}, {"small letters", "lnt1\x01" + zeros}, {"one behind", "LNT1\x01" + zeros + "\x00"}, {"two functions, one there", "LNT1\x02" + zeros},
		{"half a unit as Name", "LNT1\x01\x01a" + zeros[1:]}, {"an odd Name", "LNT1\x01\x03abc" + zeros[1:]}, {"a Name past the end", "LNT1\x01\x7e\x00a" + zeros}, {"the longest Name", "LNT1\x01\xfe\xff\xff\xff\xff\xff\xff\xff\x7f" + zeros},
		{"a longer number", "LNT1\x81\x00" + zeros}, {"a longer 0", "LNT1\x01\x80\x00" + zeros[1:]}, {"a 0 of three bytes", "LNT1\x01\x80\x80\x00" + zeros[1:]}, {"Params of a longer number", "LNT1\x01\x00\xff\x00" + zeros[2:]},
		{"Params of ten bytes", "LNT1\x01\x00\x80\x80\x80\x80\x80\x80\x80\x80\x80\x01" + zeros[2:]}, {"a wrapped 0", "LNT1\x01\x00\x80\x80\x80\x80\x80\x80\x80\x80\x80\x02" + zeros[2:]}, {"a number without an end", "LNT1\x01\x00" + strings.Repeat("\xff", 40)},
		{"Rest 2", "LNT1\x01\x00\x00\x02" + zeros[3:]}, {"Arrow 2", "LNT1\x01\x00\x00\x00\x02" + zeros[4:]}, {"a longer Rest", "LNT1\x01\x00\x00\x81\x00" + zeros[3:]},
		{"a constant of tag 2", ahead + "\x01\x02\x00\x00\x00\x00"}, {"an odd text", ahead + "\x01\x01\x01a\x00\x00\x00"}, {"a longer tag", ahead + "\x01\x81\x00\x00\x00\x00\x00"},
		{"a NaN with more bits", ahead + "\x01\x00\x7f\xf8\x00\x00\x00\x00\x00\x01\x00\x00\x00"}, {"a NaN with a sign", ahead + "\x01\x00\xff\xf8\x00\x00\x00\x00\x00\x00\x00\x00\x00"}, {"a NaN that signals", ahead + "\x01\x00\x7f\xf0\x00\x00\x00\x00\x00\x01\x00\x00\x00"},
		{"more constants than bytes", ahead + "\xff\xff\xff\xff\xff\xff\xff\xff\x7f\x01\x00\x01\x00"}, {"more instructions than bytes", ahead + "\x00\xff\xff\xff\xff\xff\xff\xff\xff\x7f\x22\x00"}, {"more functions than bytes", "LNT1\xff\xff\xff\xff\xff\xff\xff\xff\x7f" + zeros},
		{"Op 71", ahead + "\x00\x01\x47\x00\x00\x00\x00\x00"}, {"Op 127", ahead + "\x00\x01\x7f\x00\x00\x00\x00\x00"}, {"a greater Op", ahead + "\x00\x01\x80\x01\x00\x00\x00\x00\x00"}, {"the greatest Op", ahead + "\x00\x01\xff\xff\xff\xff\xff\xff\xff\xff\x7f\x00\x00\x00"}, {"an operand too few", ahead + "\x00\x01\x00\x00\x00\x00"}, {"an operand too many", ahead + "\x00\x01\x22\x00\x00\x00\x00"}, {"a longer operand", ahead + "\x00\x01\x22\x80\x00\x00\x00"},
		{"a try without Reg", ahead + "\x00\x00\x01\x00\x01\x02"}, {"Up 2", ahead + "\x00\x00\x00\x01\x02\x00"}, {"a capture without N", ahead + "\x00\x00\x00\x01\x01"},
	} {
		refused(t, x.name, x.b)
	}
}

// P11.3: of each beginning and each continuation of a module's bytes ErrCode; of too many ErrLong, whatever they are.
func TestDecodeCut(t *testing.T) {
	for i := range len(wholeBytes) {
		refused(t, "a beginning", wholeBytes[:i])
		refused(t, "an end", wholeBytes[i+1:])
	}
	for c := range 256 {
		refused(t, "one more", wholeBytes+string([]byte{byte(c)}))
	}
	refused(t, "as many as may be", string(make([]byte, api.MaxCode)))
	good := append([]byte(wholeBytes), make([]byte, api.MaxCode)...)
	for _, b := range [][]byte{make([]byte, api.MaxCode+1), good, good[:api.MaxCode+1], (&oracle{}).module(sized(t, api.MaxCode+1))} {
		if m, e := code.Decode(b); e != api.ErrLong || m.Fns != nil {
			t.Errorf("%d bytes: %d functions, error %d", len(b), len(m.Fns), e)
		}
	}
	if m, e := code.Decode((&oracle{}).module(sized(t, api.MaxCode))); e != api.OK || !code.Same(m, sized(t, api.MaxCode)) {
		t.Errorf("as many as may be: error %d", e)
	}
}

// thereAndBack says that bytes are a module's just if Encode makes them of it, and answers whether they are.
func thereAndBack(t *testing.T, b []byte) bool {
	t.Helper()
	m, e := code.Decode(b)
	if e == api.OK {
		if again := encoded(t, m); !bytes.Equal(again, b) {
			t.Fatalf("%q is read, and written as %q", b, again)
		}
		return true
	}
	if e != api.ErrCode || m.Fns != nil {
		t.Fatalf("%q: %v, error %d", b, m, e)
	}
	return false
}

// P11.3, P11.6: of modules as they come, and of their bytes with some changed.
func TestThereAndBack(t *testing.T) {
	g := newGrower(2)
	read := 0
	for range 5000 {
		m := g.module()
		b := encoded(t, m)
		got, e := code.Decode(b)
		if e != api.OK || !code.Same(got, m) || !code.Same(m, got) {
			t.Fatalf("%v: %v, error %d", m, got, e)
		}
		for range 20 {
			if thereAndBack(t, g.changed(b)) {
				read++
			}
		}
	}
	if read < 10000 || read > 90000 {
		t.Errorf("of the changed ones %d are modules", read)
	}
}

// changed is bytes of which some are others, more or fewer.
func (g *grower) changed(b []byte) []byte {
	b = slices.Clone(b)
	at := len("LNT1") + g.Intn(len(b)-len("LNT1"))
	switch g.Intn(5) {
	case 0:
		b[at] = byte(g.Intn(256))
	case 1:
		b[at] ^= 1 << g.Intn(8)
	case 2:
		b[at] += byte(g.Intn(3) - 1)
	case 3:
		b = slices.Insert(b, at, byte(g.Intn(256)))
	default:
		b = slices.Delete(b, at, at+1)
	}
	return b
}

// P11.3, P11.6: each byte of a module's bytes as each other one.
func TestDecodeEachByte(t *testing.T) {
	for i := range len(wholeBytes) {
		for c := range 256 {
			b := []byte(wholeBytes)
			b[i] = byte(c)
			thereAndBack(t, b)
		}
	}
}

// P11.3, P11.6: all short lists of some bytes behind a function's beginning.
func TestDecodeShort(t *testing.T) {
	const bytes = "\x00\x01\x02\x22\x80"
	some, read := []string{""}, 0
	for range 7 {
		var more []string
		for _, s := range some {
			for i := range len(bytes) {
				more = append(more, s+bytes[i:i+1])
			}
		}
		some = more
		for _, s := range some {
			if thereAndBack(t, []byte("LNT1\x01\x00\x00\x00\x00\x00"+s)) {
				read++
			}
		}
	}
	if read < 50 {
		t.Errorf("just %d are modules", read)
	}
}

// P11.3: fields that a constant's kind does not name are 0, and operands that an instruction has not.
func TestDecodeFields(t *testing.T) {
	m, e := code.Decode([]byte(wholeBytes))
	if e != api.OK {
		t.Fatal(e)
	}
	for n, f := range m.Fns {
		want := whole().Fns[n]
		if f.Name != want.Name || f.Params != want.Params || f.Rest != want.Rest || f.Arrow != want.Arrow || f.Regs != want.Regs {
			t.Errorf("%v, not %v", f, want)
		}
		if !slices.Equal(f.Code, want.Code) || !slices.Equal(f.Tries, want.Tries) || !slices.Equal(f.Caps, want.Caps) {
			t.Errorf("%v, not %v", f, want)
		}
		for i, v := range f.Consts {
			x := want.Consts[i]
			if v.Kind != x.Kind || v.Str != x.Str || v.Ref != 0 || math.IsNaN(v.Num) != math.IsNaN(x.Num) || !math.IsNaN(v.Num) && math.Float64bits(v.Num) != math.Float64bits(x.Num) {
				t.Errorf("%v, not %v", v, x)
			}
		}
	}
}

// P2: what is given is not changed, what is answered shares no memory with it or with another answer.
func TestMemory(t *testing.T) {
	m, b := whole(), []byte(wholeBytes + "behind")[:len(wholeBytes)]
	first, second := encoded(t, m), encoded(t, m)
	clear(first)
	if !code.Same(m, whole()) || string(second) != wholeBytes {
		t.Error("Encode's answer is not its own")
	}
	one, _ := code.Decode(b)
	two, _ := code.Decode(b)
	if string(b[:len(b)+6]) != wholeBytes+"behind" {
		t.Error("Decode changes what it is given")
	}
	clear(b)
	for i := range one.Fns {
		clear(one.Fns[i].Consts)
		clear(one.Fns[i].Code)
		clear(one.Fns[i].Tries)
		clear(one.Fns[i].Caps)
	}
	clear(one.Fns)
	if !code.Same(two, whole()) {
		t.Error("Decode's answer is not its own")
	}
	for i := range two.Fns { // what goes behind one list is no other's
		f := &two.Fns[i]
		f.Consts, f.Code, f.Tries, f.Caps = append(f.Consts, api.Value{}), append(f.Code, api.Ins{}), append(f.Tries, api.Try{}), append(f.Caps, api.Capture{})
	}
	for i, f := range two.Fns {
		want := whole().Fns[i]
		want.Consts, want.Code, want.Tries, want.Caps = append(want.Consts, api.Value{}), append(want.Code, api.Ins{}), append(want.Tries, api.Try{}), append(want.Caps, api.Capture{})
		if !code.Same(api.Module{Fns: []api.Fn{f}}, api.Module{Fns: []api.Fn{want}}) {
			t.Error("lists of an answer share memory")
		}
	}
}
