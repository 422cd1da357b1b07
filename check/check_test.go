package check_test

import (
	"math"
	"testing"

	"lintel/api"
	"lintel/check"
)

// text is a constant that is a text.
var text = api.Value{Kind: api.Text, Str: "\x00a"}

// end is an instruction that a function may have as its last one.
var end = api.Ins{Op: api.OpReturn}

// pair is a module that may run, of a script and a function which it makes.
func pair() api.Module {
	return api.Module{Fns: []api.Fn{
		{
			Regs:   4,
			Consts: []api.Value{text, {Kind: api.Number, Num: 1.5}},
			Code:   []api.Ins{{Op: api.OpLoad}, {Op: api.OpCell, A: 1}, {Op: api.OpClosure, A: 2, B: 1}, {Op: api.OpNot, A: 2, B: 5}, {Op: api.OpThrow}, end},
			Tries:  []api.Try{{From: 2, To: 3, At: 5, Reg: 3}, {From: 1, To: 4, At: 4}},
		},
		{
			Name: "\x00f", Params: 2, Rest: true, Arrow: true, Regs: 3,
			Consts: []api.Value{{Kind: api.Number}, text},
			Code:   []api.Ins{{Op: api.OpUp, A: 1}, {Op: api.OpClosure, A: 2, B: 1}, {Op: api.OpSame, A: 1, B: math.MaxInt32}, {Op: api.OpUpSet, B: 2}, {Op: api.OpJump, A: 1}},
			Caps:   []api.Capture{{N: 1}},
			Tries:  []api.Try{{From: 0, To: 5, At: 0, Reg: 2}},
		},
	}}
}

// taken says that a module may run.
func taken(t *testing.T, name string, m api.Module) {
	t.Helper()
	if n, at, e := check.Check(m); n != 0 || at != 0 || e != api.OK {
		t.Errorf("%s: function %d, place %d, error %d", name, n, at, e)
	}
}

// refused says at which function and place a module is wrong.
func refused(t *testing.T, name string, m api.Module, n, at int) {
	t.Helper()
	if gotN, gotAt, e := check.Check(m); gotN != n || gotAt != at || e != api.ErrCheck {
		t.Errorf("%s: function %d, place %d, error %d, not %d, %d, %d", name, gotN, gotAt, e, n, at, api.ErrCheck)
	}
}

// script is a module of a script with four registers, a Number and a text as constants, and these instructions.
func script(l ...api.Ins) api.Module {
	return api.Module{Fns: []api.Fn{{Regs: 4, Consts: []api.Value{{Kind: api.Number}, text}, Code: l}}}
}

// P12.1: the document's example.
func TestExample(t *testing.T) {
	f := api.Fn{Regs: 1, Code: []api.Ins{{Op: api.OpLoad}, {Op: api.OpReturn}}}
	taken(t, "the example", api.Module{Fns: []api.Fn{f}})
	f.Code = f.Code[:1]
	refused(t, "without the second", api.Module{Fns: []api.Fn{f}}, 0, 0)
	f.Code = []api.Ins{{Op: api.OpJump, A: 5}}
	refused(t, "Jump 5", api.Module{Fns: []api.Fn{f}}, 0, 0)
	f.Code = []api.Ins{{Op: api.OpJump}}
	taken(t, "Jump 0", api.Module{Fns: []api.Fn{f}})
}

// P12.1: there is a function, and not more than MaxFns.
func TestFunctions(t *testing.T) {
	taken(t, "two", pair())
	refused(t, "none", api.Module{}, 0, 0)
	refused(t, "none", api.Module{Fns: []api.Fn{}}, 0, 0)
	refused(t, "none, with some behind", api.Module{Fns: pair().Fns[:0]}, 0, 0)
	refused(t, "an empty one", api.Module{Fns: make([]api.Fn, 1)}, 0, 0)
	var m api.Module
	for range api.MaxFns {
		m.Fns = append(m.Fns, api.Fn{Regs: 1, Code: []api.Ins{end}})
	}
	m.Fns[0].Code = []api.Ins{{Op: api.OpClosure, B: api.MaxFns - 1}, end}
	taken(t, "the most", m)
	refused(t, "one of too many is wrong", api.Module{Fns: append(m.Fns[:api.MaxFns:api.MaxFns], api.Fn{})}, 0, 0)
	refused(t, "one too many", api.Module{Fns: append(m.Fns[:api.MaxFns:api.MaxFns], m.Fns[0])}, 0, 0)
	m.Fns[api.MaxFns-1].Code = []api.Ins{{Op: api.OpLoad}, {Op: api.OpLoad}}
	refused(t, "the last", m, api.MaxFns-1, 1)
}

// P12.1: what is looked at ahead of the instructions, in the script and in another function.
func TestHeads(t *testing.T) {
	for _, x := range []struct {
		name  string
		wrong bool
		to    func(*api.Fn)
	}{
		{"an odd Name", false, func(f *api.Fn) { f.Name = "odd" }},
		{"MaxRegs registers", false, func(f *api.Fn) { f.Regs = api.MaxRegs }},
		{"a register too many", true, func(f *api.Fn) { f.Regs = api.MaxRegs + 1 }},
		{"the most registers", true, func(f *api.Fn) { f.Regs = math.MaxInt }},
		{"no register", true, func(f *api.Fn) { f.Regs = 0 }},
		{"registers below 0", true, func(f *api.Fn) { f.Regs = -1 }},
		{"the least registers", true, func(f *api.Fn) { f.Regs = math.MinInt }},
		{"Params below 0", true, func(f *api.Fn) { f.Params, f.Rest = -1, false }},
		{"Params below 0, a Rest", true, func(f *api.Fn) { f.Params, f.Rest = -1, true }},
		{"the least Params", true, func(f *api.Fn) { f.Params = math.MinInt }},
		{"Params above Regs", true, func(f *api.Fn) { f.Params, f.Rest = f.Regs+1, false }},
		{"Params and Rest above Regs", true, func(f *api.Fn) { f.Params, f.Rest = f.Regs, true }},
		{"the most Params", true, func(f *api.Fn) { f.Params, f.Rest = math.MaxInt, false }},
		{"the most Params, a Rest", true, func(f *api.Fn) { f.Params, f.Rest = math.MaxInt, true }},
		{"no instruction", true, func(f *api.Fn) { f.Code, f.Tries = nil, nil }},
		{"no instruction, some behind", true, func(f *api.Fn) { f.Code, f.Tries = f.Code[:0], nil }},
		{"no constant", true, func(f *api.Fn) { f.Consts[0] = api.Value{} }},
		{"Null", true, func(f *api.Fn) { f.Consts[1] = api.Value{Kind: api.Null} }},
		{"Bool", true, func(f *api.Fn) { f.Consts[1] = api.Value{Kind: api.Bool} }},
		{"Symbol", true, func(f *api.Fn) { f.Consts[1] = api.Value{Kind: api.Symbol} }},
		{"Object", true, func(f *api.Fn) { f.Consts[1] = api.Value{Kind: api.Object} }},
		{"a kind above", true, func(f *api.Fn) { f.Consts[1].Kind = 7 }},
		{"a kind below", true, func(f *api.Fn) { f.Consts[1].Kind = -1 }},
		{"an odd text", true, func(f *api.Fn) { f.Consts[1] = api.Value{Kind: api.Text, Str: "abc"} }},
		{"half a unit", true, func(f *api.Fn) { f.Consts[0] = api.Value{Kind: api.Text, Str: "a"} }},
		{"an empty text", false, func(f *api.Fn) { f.Consts[0] = api.Value{Kind: api.Text} }},
		{"NaN", false, func(f *api.Fn) { f.Consts[1] = api.Value{Kind: api.Number, Num: math.NaN()} }},
		{"no constants", false, func(f *api.Fn) { f.Consts = nil }},
		{"a Number with a Str", false, func(f *api.Fn) { f.Consts[1] = api.Value{Kind: api.Number, Str: "odd"} }},
	} {
		for n := range 2 {
			m := pair()
			x.to(&m.Fns[n])
			if x.wrong {
				m.Fns[n].Tries = []api.Try{{}} // what is named first is told
				refused(t, x.name, m, n, 0)
			} else {
				taken(t, x.name, m)
			}
		}
	}
}

// P12.1: parameters, and a Rest, up to the registers.
func TestParams(t *testing.T) {
	m := pair()
	f := &m.Fns[1]
	for params := range 3 {
		f.Params, f.Rest = params, true
		taken(t, "with a Rest", m)
	}
	for params := range 4 {
		f.Params, f.Rest = params, false
		taken(t, "without a Rest", m)
	}
	f.Regs, f.Code, f.Tries = 1, []api.Ins{end}, nil
	for params, rest := range []bool{true, false} {
		f.Params, f.Rest = params, rest
		taken(t, "one register", m)
	}
	f.Params, f.Rest = 1, true
	refused(t, "one register", m, 1, 0)
}

// P12.1: the script has no parameters, no Rest, no captures, is no arrow.
func TestScript(t *testing.T) {
	for name, to := range map[string]func(*api.Fn){
		"parameters": func(f *api.Fn) { f.Params = 1 },
		"a Rest":     func(f *api.Fn) { f.Rest = true },
		"an arrow":   func(f *api.Fn) { f.Arrow = true },
		"captures":   func(f *api.Fn) { f.Caps = []api.Capture{{}} },
	} {
		m := pair()
		to(&m.Fns[0])
		refused(t, name, m, 0, 0)
		m = pair()
		m.Fns[1] = api.Fn{Regs: 1, Code: []api.Ins{end}}
		to(&m.Fns[1])
		taken(t, name+" of another", m)
	}
}

// P12.1: the first that is wrong, of functions, of places.
func TestFirst(t *testing.T) {
	m := pair()
	m.Fns[1].Code[1].A, m.Fns[1].Code[3].A, m.Fns[1].Tries[0].At = 9, 9, 9
	refused(t, "the second's second", m, 1, 1)
	m.Fns[1].Code[1].A = 2
	refused(t, "the second's fourth", m, 1, 3)
	m.Fns[1].Code[3].A = 0
	refused(t, "the second's try", m, 1, 5)
	m.Fns[1].Consts[1].Kind = 0
	refused(t, "the second's constant", m, 1, 0)
	m.Fns[0].Tries[1].To = 9
	refused(t, "the first's try", m, 0, 6)
	m.Fns[0].Code[5].Op = api.OpMove
	refused(t, "the first's last", m, 0, 5)
	m.Fns[0].Code[4].B = 1
	refused(t, "the first's last but one", m, 0, 4)
	m.Fns[0].Arrow = true
	refused(t, "the first as an arrow", m, 0, 0)
}

// P12.1: the last instruction is Jump, Return or Throw; ones ahead of it may be.
func TestLast(t *testing.T) {
	for op := range api.MaxOp + 1 {
		m := pair()
		f := &m.Fns[1]
		i := least(op)
		f.Code, f.Tries = []api.Ins{i, end, i}, nil
		if op == api.OpJump || op == api.OpReturn || op == api.OpThrow {
			taken(t, "an end", m)
		} else {
			refused(t, "no end", m, 1, 2)
		}
	}
}

// P12.1: the numbers of no instruction.
func TestOps(t *testing.T) {
	for _, op := range []int{-1, api.MaxOp + 1, 255, 256, math.MaxInt, math.MinInt} {
		refused(t, "no instruction", script(end, api.Ins{Op: op}, end), 0, 1)
		refused(t, "no instruction at the end", script(end, end, api.Ins{Op: op}), 0, 2)
	}
}

// P12.1: the captures of the function that Closure makes, of which function it is; others' are not looked at.
func TestClosures(t *testing.T) {
	for _, x := range []struct {
		name string
		ok   bool
		caps []api.Capture
	}{
		{"none", true, nil},
		{"registers", true, []api.Capture{{N: 0}, {N: 6}, {N: 3}}},
		{"captures", true, []api.Capture{{Up: true, N: 0}, {Up: true, N: 1}, {Up: true}}},
		{"both", true, []api.Capture{{N: 6}, {Up: true, N: 1}}},
		{"a register too far", false, []api.Capture{{N: 0}, {N: 7}, {N: 0}}},
		{"a capture too far", false, []api.Capture{{Up: true, N: 0}, {Up: true, N: 2}, {Up: true, N: 0}}},
		{"a register's number as a capture", false, []api.Capture{{Up: true, N: 6}}},
		{"a register below 0", false, []api.Capture{{N: 3}, {N: -1}, {N: 3}}},
		{"a capture below 0", false, []api.Capture{{Up: true, N: 1}, {Up: true, N: -1}}},
		{"the farthest register", false, []api.Capture{{N: math.MaxInt}}},
		{"the farthest capture", false, []api.Capture{{Up: true, N: math.MaxInt}}},
		{"the least register", false, []api.Capture{{N: math.MinInt}}},
		{"the least capture", false, []api.Capture{{Up: true, N: math.MinInt}}},
	} {
		m := api.Module{Fns: []api.Fn{pair().Fns[0], {Regs: 7, Caps: []api.Capture{{N: 3}, {N: 0}}}, {Regs: 1, Code: []api.Ins{end}, Caps: x.caps}}}
		f := &m.Fns[1]
		f.Code = []api.Ins{{Op: api.OpClosure, B: 2}, end}
		if x.ok {
			taken(t, x.name, m)
		} else {
			refused(t, x.name, m, 1, 0)
		}
		f.Code[0].Op, f.Code[0].B = api.OpUp, 1
		taken(t, x.name+", which nobody makes", m)
	}
}

// P12.1: a function may make itself; then it needs its own registers and captures.
func TestItself(t *testing.T) {
	m := pair()
	m.Fns[1].Caps = []api.Capture{{N: 2}, {N: 0}}
	taken(t, "registers", m)
	m.Fns[1].Caps[0].N = 3
	refused(t, "a register that only the script has", m, 1, 1)
	m.Fns[1].Caps[0] = api.Capture{Up: true, N: 1}
	refused(t, "a capture of the script", m, 0, 2)
}
