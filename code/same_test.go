package code_test

import (
	"math"
	"slices"
	"testing"

	"lintel/api"
	"lintel/code"
)

// same says whether modules are alike, which is so both ways.
func same(t *testing.T, a, b api.Module) bool {
	t.Helper()
	if code.Same(a, b) != code.Same(b, a) {
		t.Errorf("%v and %v: one way alone", a, b)
	}
	return code.Same(a, b)
}

// P11.5: what differs in anything is not alike.
func TestSame(t *testing.T) {
	if !same(t, whole(), whole()) || !same(t, api.Module{}, api.Module{Fns: []api.Fn{}}) {
		t.Error("alike modules")
	}
	for name, change := range map[string]func(m *api.Module){
		"no function":     func(m *api.Module) { m.Fns = nil },
		"one fewer":       func(m *api.Module) { m.Fns = m.Fns[:3] },
		"one more":        func(m *api.Module) { m.Fns = append(m.Fns, api.Fn{}) },
		"another order":   func(m *api.Module) { slices.Reverse(m.Fns) },
		"Name":            func(m *api.Module) { m.Fns[1].Name = "\x00f\x00h" },
		"a longer Name":   func(m *api.Module) { m.Fns[1].Name += "\x00h" },
		"Params":          func(m *api.Module) { m.Fns[1].Params++ },
		"Rest":            func(m *api.Module) { m.Fns[1].Rest = false },
		"Arrow":           func(m *api.Module) { m.Fns[1].Arrow = false },
		"Regs":            func(m *api.Module) { m.Fns[1].Regs-- },
		"a text":          func(m *api.Module) { m.Fns[0].Consts[0].Str = "\x00a\xd8\x01" },
		"a number":        func(m *api.Module) { m.Fns[0].Consts[1].Num = 2 },
		"NaN, a number":   func(m *api.Module) { m.Fns[0].Consts[1].Num = math.NaN() },
		"0, -0":           func(m *api.Module) { m.Fns[0].Consts[3].Num = 0 },
		"a kind":          func(m *api.Module) { m.Fns[0].Consts[2].Kind = api.Null },
		"a Ref":           func(m *api.Module) { m.Fns[0].Consts[2].Ref = 1 },
		"a constant more": func(m *api.Module) { m.Fns[3].Consts = make([]api.Value, 1) },
		"constants' order": func(m *api.Module) {
			m.Fns[0].Consts[0], m.Fns[0].Consts[1] = m.Fns[0].Consts[1], m.Fns[0].Consts[0]
		},
		"Op":              func(m *api.Module) { m.Fns[0].Code[0].Op = api.OpNew },
		"A":               func(m *api.Module) { m.Fns[0].Code[0].A++ },
		"B":               func(m *api.Module) { m.Fns[0].Code[0].B++ },
		"C":               func(m *api.Module) { m.Fns[0].Code[0].C++ },
		"D":               func(m *api.Module) { m.Fns[0].Code[0].D++ },
		"one that is not": func(m *api.Module) { m.Fns[1].Code[1].D++ },
		"fewer Code":      func(m *api.Module) { m.Fns[1].Code = m.Fns[1].Code[:1] },
		"From":            func(m *api.Module) { m.Fns[0].Tries[1].From++ },
		"To":              func(m *api.Module) { m.Fns[0].Tries[1].To++ },
		"At":              func(m *api.Module) { m.Fns[0].Tries[1].At++ },
		"Reg":             func(m *api.Module) { m.Fns[0].Tries[1].Reg++ },
		"fewer Tries":     func(m *api.Module) { m.Fns[0].Tries = m.Fns[0].Tries[:1] },
		"Up":              func(m *api.Module) { m.Fns[1].Caps[0].Up = false },
		"N":               func(m *api.Module) { m.Fns[1].Caps[1].N++ },
		"fewer Caps":      func(m *api.Module) { m.Fns[1].Caps = nil },
	} {
		m := whole()
		change(&m)
		if same(t, m, whole()) {
			t.Errorf("%s: alike", name)
		}
		if !same(t, m, m) {
			t.Errorf("%s: not alike to itself", name)
		}
	}
}

// P11.5: NaN is one, whichever bits it has; an odd byte does not count; a nil list is an empty one.
func TestSameAlike(t *testing.T) {
	m := whole()
	m.Fns[0].Consts[4].Num = math.Float64frombits(0xFFF0000000000001)
	m.Fns[0].Consts[0].Str += "x"
	m.Fns[1].Name += "x"
	m.Fns[3].Name = "x"
	m.Fns[1].Consts, m.Fns[0].Caps, m.Fns[3].Code, m.Fns[2].Tries = []api.Value{}, []api.Capture{}, make([]api.Ins, 0, 2), make([]api.Try, 0, 2)
	if !same(t, m, whole()) {
		t.Error("not alike")
	}
}

// P11.5, P11.6: modules are alike just if their bytes are.
func TestSameGrown(t *testing.T) {
	g := newGrower(3)
	read := 0
	for range 3000 {
		a := g.module()
		bytes := encoded(t, a)
		for range 5 {
			changed := g.changed(bytes)
			b, e := code.Decode(changed)
			if e != api.OK {
				continue
			}
			read++
			if got := same(t, a, b); got != (string(changed) == string(bytes)) {
				t.Fatalf("%v and %v: %v", a, b, got)
			}
		}
	}
	if read < 1000 {
		t.Errorf("just %d changed ones are modules", read)
	}
}

// P1: whatever is given, each call ends, none panics.
func TestAnything(t *testing.T) {
	g := newGrower(4)
	any := func() int { return []int{-1, 0, 1, 3, 4, 70, 71, math.MaxInt, math.MinInt}[g.Intn(9)] }
	text := func() api.Str { return []api.Str{"", "a", "ab", "abc"}[g.Intn(4)] }
	value := func() api.Value { return api.Value{Kind: any(), Num: float64(any()), Str: text(), Ref: any()} }
	ins := func() api.Ins { return api.Ins{Op: any(), A: any(), B: any(), C: any(), D: any()} }
	attempt := func() api.Try { return api.Try{From: any(), To: any(), At: any(), Reg: any()} }
	capture := func() api.Capture { return api.Capture{Up: g.Intn(2) == 0, N: any()} }
	for range 20000 {
		f := api.Fn{Name: text(), Params: any(), Regs: any(), Consts: some(g, 2, value), Code: some(g, 2, ins), Tries: some(g, 1, attempt), Caps: some(g, 1, capture)}
		m := api.Module{Fns: []api.Fn{f}}
		code.Show(f)
		if !same(t, m, m) {
			t.Fatalf("%v is not alike to itself", m)
		}
		b, e := code.Encode(m)
		if e == api.OK {
			if got, e := code.Decode(b); e != api.OK || !same(t, got, m) {
				t.Fatalf("%v: %v, error %d", m, got, e)
			}
		} else if e != api.ErrCode || len(b) != 0 {
			t.Fatalf("%v: %q, error %d", m, b, e)
		}
	}
}
