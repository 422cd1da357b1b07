package code_test

import (
	"bytes"
	"math"
	"slices"
	"strings"
	"testing"

	"lintel/api"
	"lintel/code"
)

// whole is a module that has something of everything.
func whole() api.Module {
	return api.Module{Fns: []api.Fn{
		{
			Regs: 300,
			Consts: []api.Value{
				{Kind: api.Text, Str: "\x00a\xd8\x00"}, {Kind: api.Number, Num: 1.5}, {Kind: api.Text},
				{Kind: api.Number, Num: math.Copysign(0, -1)}, {Kind: api.Number, Num: math.NaN()}, {Kind: api.Number, Num: math.Inf(-1)},
			},
			Code: []api.Ins{
				{Op: api.OpCall, A: 1, B: 127, C: 128, D: 299}, {Op: api.OpSame, A: 2, B: 16383, C: 16384}, {Op: api.OpClosure, A: 3, B: 1},
				{Op: api.MaxOp, A: 4, B: 5, C: 6}, {Op: api.OpJump, A: math.MaxInt},
			},
			Tries: []api.Try{{From: 1, To: 2, At: 3, Reg: 4}, {From: 0, To: 130, At: 0, Reg: 0}},
		},
		{
			Name: "\x00f\x00g", Params: 2, Rest: true, Arrow: true, Regs: 3,
			Code: []api.Ins{{Op: api.OpUp, A: 1, B: 1}, {Op: api.OpReturn, A: 1}},
			Caps: []api.Capture{{Up: true, N: 129}, {Up: false, N: 2}},
		},
		{Name: "\x20\xac", Rest: true},
		{Arrow: true},
	}}
}

// wholeBytes are its bytes, by hand.
const wholeBytes = "LNT1\x04" +
	"\x00\x00\x00\x00\xac\x02" +
	"\x06\x01\x04\x00a\xd8\x00\x00\x3f\xf8\x00\x00\x00\x00\x00\x00\x01\x00\x00\x80\x00\x00\x00\x00\x00\x00\x00" +
	"\x00\x7f\xf8\x00\x00\x00\x00\x00\x00\x00\xff\xf0\x00\x00\x00\x00\x00\x00" +
	"\x05\x20\x01\x7f\x80\x01\xab\x02\x13\x02\xff\x7f\x80\x80\x01\x0f\x03\x01\x46\x04\x05\x06\x10\xff\xff\xff\xff\xff\xff\xff\xff\x7f" +
	"\x02\x01\x02\x03\x04\x00\x82\x01\x00\x00" +
	"\x00" +
	"\x04\x00f\x00g\x02\x01\x01\x03\x00\x02\x0b\x01\x01\x22\x01\x00\x02\x01\x81\x01\x00\x02" +
	"\x02\x20\xac\x00\x01\x00\x00\x00\x00\x00\x00" +
	"\x00\x00\x00\x01\x00\x00\x00\x00\x00"

// encoded is the bytes of a module that has some.
func encoded(t *testing.T, m api.Module) []byte {
	t.Helper()
	b, e := code.Encode(m)
	if e != api.OK {
		t.Fatalf("Encode(%.300v): error %d", m, e)
	}
	return b
}

// P11.2, P11.3: each part of a module, by hand.
func TestEncode(t *testing.T) {
	if got := encoded(t, whole()); string(got) != wholeBytes {
		t.Errorf("%q, not\n%q", got, wholeBytes)
	}
	if m, e := code.Decode([]byte(wholeBytes)); e != api.OK || !code.Same(m, whole()) {
		t.Errorf("%v, error %d", m, e)
	}
	if got := encoded(t, api.Module{Fns: make([]api.Fn, 1)}); string(got) != "LNT1\x01"+strings.Repeat("\x00", 9) {
		t.Errorf("the least module: %q", got)
	}
	for _, m := range []api.Module{{}, {Fns: []api.Fn{}}, {Fns: make([]api.Fn, 0, 3)}} {
		if b, e := code.Encode(m); e != api.ErrCode || len(b) != 0 {
			t.Errorf("without a function: %q, error %d", b, e)
		}
	}
}

// P11.2, P11.3: each instruction, with as many operands as the table has.
func TestEncodeInstructions(t *testing.T) {
	for _, r := range rows(t) {
		i := api.Ins{Op: r.op}
		want := []byte("LNT1\x01" + "\x00\x00\x00\x00\x00\x00\x01")
		want = append(want, byte(r.op))
		for n, p := range []*int{&i.A, &i.B, &i.C, &i.D}[:len(r.operands)] {
			*p = 7 + n
			want = append(want, byte(7+n))
		}
		want = append(want, 0, 0)
		if got := encoded(t, api.Module{Fns: []api.Fn{{Code: []api.Ins{i}}}}); !bytes.Equal(got, want) {
			t.Errorf("%s: %q, not %q", r.name, got, want)
		}
		if m, e := code.Decode(want); e != api.OK || len(m.Fns) != 1 || !slices.Equal(m.Fns[0].Code, []api.Ins{i}) {
			t.Errorf("%s: %v, error %d", r.name, m, e)
		}
	}
}

// P11.2: numbers in as few bytes as can be.
func TestEncodeNumbers(t *testing.T) {
	for n, want := range map[int]string{
		0: "\x00", 1: "\x01", 127: "\x7f", 128: "\x80\x01", 300: "\xac\x02", 16383: "\xff\x7f", 16384: "\x80\x80\x01",
		1 << 31: "\x80\x80\x80\x80\x08", 1 << 56: "\x80\x80\x80\x80\x80\x80\x80\x80\x01", 1<<56 - 1: "\xff\xff\xff\xff\xff\xff\xff\x7f",
		math.MaxInt: "\xff\xff\xff\xff\xff\xff\xff\xff\x7f",
	} {
		b := "LNT1\x01\x00" + want + "\x00\x00\x00\x00\x00\x00\x00"
		m := api.Module{Fns: []api.Fn{{Params: n}}}
		if got := encoded(t, m); string(got) != b {
			t.Errorf("%d: %q, not %q", n, got, b)
		}
		if got, e := code.Decode([]byte(b)); e != api.OK || !code.Same(got, m) {
			t.Errorf("%d: %v, error %d", n, got, e)
		}
	}
}

// P11.2: of all NaNs the same bits; 0 and -0 are two.
func TestEncodeConstants(t *testing.T) {
	for _, x := range []struct {
		bits uint64
		want string
	}{
		{0, "\x00\x00\x00\x00\x00\x00\x00\x00"},
		{1 << 63, "\x80\x00\x00\x00\x00\x00\x00\x00"},
		{0x0123456789ABCDEF, "\x01\x23\x45\x67\x89\xab\xcd\xef"},
		{0x7FF0000000000000, "\x7f\xf0\x00\x00\x00\x00\x00\x00"},
		{0x7FF8000000000000, "\x7f\xf8\x00\x00\x00\x00\x00\x00"},
		{0x7FF8000000000001, "\x7f\xf8\x00\x00\x00\x00\x00\x00"},
		{0x7FF0000000000001, "\x7f\xf8\x00\x00\x00\x00\x00\x00"},
		{0xFFF8000000000000, "\x7f\xf8\x00\x00\x00\x00\x00\x00"},
		{0xFFFFFFFFFFFFFFFF, "\x7f\xf8\x00\x00\x00\x00\x00\x00"},
	} {
		m := api.Module{Fns: []api.Fn{{Consts: []api.Value{{Kind: api.Number, Num: math.Float64frombits(x.bits)}}}}}
		b := "LNT1\x01\x00\x00\x00\x00\x00\x01\x00" + x.want + "\x00\x00\x00"
		if got := encoded(t, m); string(got) != b {
			t.Errorf("%x: %q, not %q", x.bits, got, b)
		}
		if got, e := code.Decode([]byte(b)); e != api.OK || !code.Same(got, m) {
			t.Errorf("%x: %v, error %d", x.bits, got, e)
		}
	}
}

// broken are ways to make a module that may not be.
var broken = map[string]func(f *api.Fn){
	"an odd name":           func(f *api.Fn) { f.Name = "\x00fg" },
	"a name of one byte":    func(f *api.Fn) { f.Name = "f" },
	"an odd text":           func(f *api.Fn) { f.Consts[0].Str += "a" },
	"Undefined":             func(f *api.Fn) { f.Consts[1] = api.Value{} },
	"Null":                  func(f *api.Fn) { f.Consts[1] = api.Value{Kind: api.Null} },
	"Bool":                  func(f *api.Fn) { f.Consts[1] = api.Value{Kind: api.Bool, Num: 1} },
	"Symbol":                func(f *api.Fn) { f.Consts[1] = api.Value{Kind: api.Symbol, Ref: 1} },
	"Object":                func(f *api.Fn) { f.Consts[1] = api.Value{Kind: api.Object} },
	"a kind above":          func(f *api.Fn) { f.Consts[1].Kind = 7 },
	"a kind below":          func(f *api.Fn) { f.Consts[1].Kind = -1 },
	"a Number with a Str":   func(f *api.Fn) { f.Consts[1].Str = "\x00a" },
	"a Number with a Ref":   func(f *api.Fn) { f.Consts[1].Ref = 1 },
	"a Text with a Num":     func(f *api.Fn) { f.Consts[0].Num = 1 },
	"a Text with -0":        func(f *api.Fn) { f.Consts[0].Num = math.Copysign(0, -1) },
	"a Text with NaN":       func(f *api.Fn) { f.Consts[0].Num = math.NaN() },
	"a Text with a Ref":     func(f *api.Fn) { f.Consts[0].Ref = -1 },
	"Params below 0":        func(f *api.Fn) { f.Params = -1 },
	"the least Params":      func(f *api.Fn) { f.Params = math.MinInt },
	"Regs below 0":          func(f *api.Fn) { f.Regs = -1 },
	"an A below 0":          func(f *api.Fn) { f.Code[0].A = -1 },
	"a B below 0":           func(f *api.Fn) { f.Code[0].B = -1 },
	"a C below 0":           func(f *api.Fn) { f.Code[0].C = -1 },
	"a D below 0":           func(f *api.Fn) { f.Code[0].D = math.MinInt },
	"an operand too many":   func(f *api.Fn) { f.Code[1].D = 1 },
	"one below 0, too many": func(f *api.Fn) { f.Code[1].D = -1 },
	"From below 0":          func(f *api.Fn) { f.Tries[1].From = -1 },
	"To below 0":            func(f *api.Fn) { f.Tries[1].To = -1 },
	"At below 0":            func(f *api.Fn) { f.Tries[1].At = -1 },
	"Reg below 0":           func(f *api.Fn) { f.Tries[1].Reg = -1 },
	"N below 0":             func(f *api.Fn) { f.Caps = []api.Capture{{N: -1}} },
	"N below 0 of Up":       func(f *api.Fn) { f.Caps = []api.Capture{{Up: true, N: -1}} },
}

// P11.2: what may not be, in the first function and in the last.
func TestEncodeWrong(t *testing.T) {
	for name, wrong := range broken {
		for at := range 2 {
			m := api.Module{Fns: []api.Fn{whole().Fns[0], whole().Fns[0]}}
			wrong(&m.Fns[at])
			if b, e := code.Encode(m); e != api.ErrCode || len(b) != 0 {
				t.Errorf("%s: %q, error %d", name, b, e)
			}
		}
	}
	for _, op := range strange {
		for _, i := range []api.Ins{{Op: op}, {Op: op, A: 1}} {
			m := whole()
			m.Fns[1].Code[1] = i
			if b, e := code.Encode(m); e != api.ErrCode || len(b) != 0 {
				t.Errorf("%v: %q, error %d", i, b, e)
			}
		}
	}
}

// P11.2: each operand that an instruction has not is 0; each that it has is not below 0.
func TestEncodeOperands(t *testing.T) {
	for _, r := range rows(t) {
		for n := range 4 {
			for _, x := range []int{1, -1, math.MaxInt, math.MinInt} {
				i := api.Ins{Op: r.op}
				*[]*int{&i.A, &i.B, &i.C, &i.D}[n] = x
				want := api.OK
				if n >= len(r.operands) || x < 0 {
					want = api.ErrCode
				}
				if _, e := code.Encode(api.Module{Fns: []api.Fn{{Code: []api.Ins{i}}}}); e != want {
					t.Errorf("%v: error %d, not %d", i, e, want)
				}
			}
		}
	}
}

// P11.2: an odd byte of a Number's Str is no text: it is empty.
func TestEncodeOddByte(t *testing.T) {
	m := api.Module{Fns: []api.Fn{{Consts: []api.Value{{Kind: api.Number, Num: 1, Str: "x"}}}}}
	got, e := code.Decode(encoded(t, m))
	if e != api.OK || !code.Same(got, m) || got.Fns[0].Consts[0].Str != "" {
		t.Errorf("%v, error %d", got, e)
	}
}

// sized is a module of so many bytes, which are more than some: a long text, and Params that are as long as is left.
func sized(t *testing.T, size int) api.Module {
	t.Helper()
	m := api.Module{Fns: []api.Fn{{Consts: []api.Value{{Kind: api.Text, Str: api.Str(strings.Repeat("\x00a", size/2-12))}}}}}
	m.Fns[0].Params = 1 << (7 * (size - len((&oracle{}).module(m))))
	if got := len((&oracle{}).module(m)); got != size {
		t.Fatalf("%d bytes, not %d", got, size)
	}
	return m
}

// P11.2, P11.3: MaxCode bytes may be, one more may not; what is wrong is told ahead of that.
func TestEncodeLong(t *testing.T) {
	for _, size := range []int{api.MaxCode - 1, api.MaxCode, api.MaxCode + 1, api.MaxCode + 2, 3 * api.MaxCode} {
		m := sized(t, size)
		b, e := code.Encode(m)
		if size > api.MaxCode {
			if e != api.ErrLong || len(b) != 0 {
				t.Errorf("%d: %d bytes, error %d", size, len(b), e)
			}
		} else if e != api.OK || !bytes.Equal(b, (&oracle{}).module(m)) {
			t.Errorf("%d: %d bytes, error %d", size, len(b), e)
		}
		for name, wrong := range broken {
			f := whole().Fns[0]
			wrong(&f)
			if b, e := code.Encode(api.Module{Fns: append(slices.Clone(m.Fns), f)}); e != api.ErrCode || len(b) != 0 {
				t.Errorf("%d, %s: %d bytes, error %d", size, name, len(b), e)
			}
		}
	}
	many := api.Module{Fns: make([]api.Fn, (api.MaxCode-len("LNT1\x80\x80\x80"))/9)}
	if _, e := code.Encode(many); e != api.OK {
		t.Errorf("many functions: error %d", e)
	}
	many.Fns = append(many.Fns, api.Fn{})
	if _, e := code.Encode(many); e != api.ErrLong {
		t.Errorf("too many functions: error %d", e)
	}
}

// P11.2: modules as they come, against the document's words.
func TestEncodeGrown(t *testing.T) {
	g := newGrower(1)
	for range 20000 {
		m := g.module()
		if got, want := encoded(t, m), (&oracle{}).module(m); !bytes.Equal(got, want) {
			t.Fatalf("%v: %q, not %q", m, got, want)
		}
	}
}
