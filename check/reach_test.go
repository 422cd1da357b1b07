package check_test

import (
	"math"
	"slices"
	"strings"
	"testing"

	"lintel/api"
	"lintel/check"
	"lintel/code"
)

// marks are what is reached, as a text: a point for what is not.
func marks(l []bool) string {
	var b strings.Builder
	for _, is := range l {
		b.WriteByte(map[bool]byte{true: 'x', false: '.'}[is])
	}
	return b.String()
}

// stuff is an instruction that just goes on.
var stuff = api.Ins{Op: api.OpLoad}

// P12.2: what goes on where, by hand.
func TestReach(t *testing.T) {
	jump := func(to int) api.Ins { return api.Ins{Op: api.OpJump, A: to} }
	for _, x := range []struct {
		name, want string
		code       []api.Ins
		tries      []api.Try
	}{
		{"nothing", "", nil, nil},
		{"nothing, with a try", "", nil, []api.Try{{To: 1}}},
		{"one", "x", []api.Ins{stuff}, nil},
		{"behind an end", "xx..", []api.Ins{stuff, end, stuff, end}, nil},
		{"behind a Throw", "x.", []api.Ins{{Op: api.OpThrow}, end}, nil},
		{"a Jump on", "x.x", []api.Ins{jump(2), stuff, end}, nil},
		{"a Jump back", "xxx.", []api.Ins{stuff, stuff, jump(0), stuff}, nil},
		{"a Jump to itself", "x.", []api.Ins{jump(0), end}, nil},
		{"a Jump to no place", "x.", []api.Ins{jump(2), end}, nil},
		{"a Jump below 0", "x.", []api.Ins{jump(-1), end}, nil},
		{"a Jump far away", "x.", []api.Ins{jump(math.MaxInt), end}, nil},
		{"a Jump far below", "x.", []api.Ins{jump(math.MinInt), end}, nil},
		{"If", "xx.x", []api.Ins{{Op: api.OpIf, B: 3}, end, stuff, end}, nil},
		{"Not", "xx.x", []api.Ins{{Op: api.OpNot, B: 3}, end, stuff, end}, nil},
		{"Same", "xx.x", []api.Ins{{Op: api.OpSame, B: 2, C: 3}, end, stuff, end}, nil},
		{"Next", "xx.x", []api.Ins{{Op: api.OpNext, B: 2, C: 3}, end, stuff, end}, nil},
		{"Step", "xx.x", []api.Ins{{Op: api.OpStep, B: 2, C: 3}, end, stuff, end}, nil},
		{"no target", "xx..", []api.Ins{{Op: api.OpMove, A: 2, B: 3}, end, stuff, end}, nil},
		{"If to no place", "xx..", []api.Ins{{Op: api.OpIf, A: 3, B: 4, C: 2, D: 3}, end, stuff, end}, nil},
		{"no instruction", "xxx.", []api.Ins{{Op: -1, A: 3, B: 3, C: 3}, {Op: api.MaxOp + 1, A: 3, B: 3, C: 3, D: 3}, end, stuff}, nil},
		{"a try", "xx.x", []api.Ins{stuff, end, stuff, end}, []api.Try{{From: 0, To: 2, At: 3}}},
		{"a try of the last that is reached", "xx.x", []api.Ins{stuff, end, stuff, end}, []api.Try{{From: 1, To: 3, At: 3}}},
		{"a try behind", "xx..", []api.Ins{stuff, end, stuff, end}, []api.Try{{From: 2, To: 4, At: 3}}},
		{"an empty try", "xx..", []api.Ins{stuff, end, stuff, end}, []api.Try{{From: 1, To: 1, At: 3}}},
		{"a try from behind", "xx..", []api.Ins{stuff, end, stuff, end}, []api.Try{{From: 2, To: 0, At: 3}}},
		{"a try from below 0", "xx.x", []api.Ins{stuff, end, stuff, end}, []api.Try{{From: math.MinInt, To: 1, At: 3}}},
		{"a try below 0", "xx..", []api.Ins{stuff, end, stuff, end}, []api.Try{{From: -3, To: 0, At: 3}}},
		{"a try to far away", "xx.x", []api.Ins{stuff, end, stuff, end}, []api.Try{{From: 1, To: math.MaxInt, At: 3}}},
		{"a try far away", "xx..", []api.Ins{stuff, end, stuff, end}, []api.Try{{From: math.MaxInt - 1, To: math.MaxInt, At: 3}}},
		{"a try of all", "xx.x", []api.Ins{stuff, end, stuff, end}, []api.Try{{From: math.MinInt, To: math.MaxInt, At: 3}}},
		{"a try to no place", "xx..", []api.Ins{stuff, end, stuff, end}, []api.Try{{From: 0, To: 1, At: 4}, {From: 0, To: 1, At: -1}, {From: 0, To: 1, At: math.MinInt}}},
		{"a try by a try", "x.xx", []api.Ins{end, end, end, end}, []api.Try{{From: 3, To: 4, At: 2}, {From: 0, To: 1, At: 3}}},
		{"a try of a target", "x.x.x", []api.Ins{jump(2), end, end, end, end}, []api.Try{{From: 2, To: 3, At: 4}, {From: 1, To: 2, At: 3}}},
		{"tries that cross", "x..xx", []api.Ins{end, end, end, end, end}, []api.Try{{From: 0, To: 3, At: 3}, {From: 2, To: 4, At: 4}}},
	} {
		got := check.Reach(api.Fn{Code: x.code, Tries: x.tries})
		if marks(got) != x.want {
			t.Errorf("%s: %s, not %s", x.name, marks(got), x.want)
		}
	}
}

// P12.2: each instruction goes on at the next, but Jump, Return and Throw, and at its target, if it has one.
func TestReachEach(t *testing.T) {
	for op := range api.MaxOp + 1 {
		for target := range 4 {
			i := api.Ins{Op: op, A: 5, B: 5, C: 5, D: 5}
			want := []byte("xxxx...")
			if at := strings.IndexByte(lettersOf(op), 't'); at >= 0 {
				*slots(&i)[at] = 3 + target
				want[3+target] = 'x'
			}
			if op == api.OpJump || op == api.OpReturn || op == api.OpThrow {
				want[1], want[2] = '.', '.'
				if op != api.OpJump || target > 0 {
					want[3] = '.'
				}
			}
			f := api.Fn{Code: []api.Ins{i, stuff, stuff, end, end, end, end}}
			if got := marks(check.Reach(f)); got != string(want) {
				t.Errorf("%v: %s, not %s", i, got, want)
			}
		}
	}
}

// P12.2, P12.3: functions as they come, against the document's words.
func TestReachGrown(t *testing.T) {
	g := newGrower(2)
	reached, not := 0, 0
	for range 40000 {
		f := g.loose()
		got, want := check.Reach(f), reachable(f)
		if !slices.Equal(got, want) {
			t.Fatalf("%v: %s, not %s", f, marks(got), marks(want))
		}
		reached += strings.Count(marks(want), "x")
		not += strings.Count(marks(want), ".")
		held(t, f)
	}
	if reached < 100000 || not < 100000 {
		t.Errorf("%d are reached, %d are not", reached, not)
	}
}

// held says that Targets tells what the document says.
func held(t *testing.T, f api.Fn) {
	t.Helper()
	var got, want [][2]int
	for at, to := range check.Targets(f) {
		got = append(got, [2]int{at, to})
	}
	for at, i := range f.Code {
		for n, letter := range code.Operands(i.Op) {
			if letter == 't' {
				want = append(want, [2]int{at, *slots(&i)[n]})
			}
		}
	}
	if !slices.Equal(got, want) {
		t.Fatalf("%v: %v, not %v", f, got, want)
	}
}

// loose is a function of many jumps, ends and tries, some of whose numbers are none.
func (g *grower) loose() api.Fn {
	size := g.Intn(24)
	place := func() int {
		if g.Intn(12) == 0 {
			return g.other(size)
		}
		return g.Intn(size + 1)
	}
	var f api.Fn
	jumps := []int{api.OpJump, api.OpReturn, api.OpThrow, api.OpIf, api.OpNot, api.OpSame, api.OpNext, api.OpStep, api.OpLoad, api.MaxOp, -1, api.MaxOp + 1}
	for range size {
		i := api.Ins{Op: jumps[g.Intn(len(jumps))], A: place(), B: place(), C: place(), D: place()}
		if g.Intn(8) == 0 {
			i.Op = g.Intn(80) - 2
		}
		f.Code = append(f.Code, i)
	}
	for range g.Intn(5) {
		f.Tries = append(f.Tries, api.Try{From: place(), To: place(), At: place(), Reg: place()})
	}
	return f
}

// P1, P12.2: long functions with many tries about each other.
func TestReachLong(t *testing.T) {
	const n = 100000
	f := api.Fn{Code: slices.Repeat([]api.Ins{end}, n)}
	for at := range n { // each goes on at the one behind its end, which is in the next
		f.Tries = append(f.Tries, api.Try{From: at, To: n, At: at + 1})
	}
	if got := marks(check.Reach(f)); got != strings.Repeat("x", n) {
		t.Error("a chain of tries is not gone along")
	}
	f.Tries = slices.Repeat([]api.Try{{From: 1, To: n, At: 1}, {From: 0, To: n, At: n - 1}}, n)
	if got := marks(check.Reach(f)); got != "xx"+strings.Repeat(".", n-3)+"x" {
		t.Error("many tries of the same")
	}
	for at := range f.Code {
		f.Code[at] = api.Ins{Op: api.OpIf, B: n - 1 - at}
	}
	if got := marks(check.Reach(f)); got != strings.Repeat("x", n) {
		t.Error("a long way is not gone along")
	}
}

// P1, P12.1: many closures of a function with many captures.
func TestManyClosures(t *testing.T) {
	const n = 100000
	m := pair()
	m.Fns[0].Code, m.Fns[0].Tries = append(slices.Repeat([]api.Ins{{Op: api.OpClosure, B: 1}}, n), end), nil
	m.Fns[1] = api.Fn{Regs: 1, Code: []api.Ins{end}, Caps: slices.Repeat([]api.Capture{{N: 3}}, n)}
	taken(t, "many captures", m)
	m.Fns[1].Caps[n-1].N = 4
	refused(t, "the last is too far", m, 0, 0)
}

// P12.3: the targets in order, those that are none, too.
func TestTargets(t *testing.T) {
	f := api.Fn{Code: []api.Ins{
		stuff, {Op: api.OpJump, A: 7, B: 1}, {Op: api.OpIf, A: 1, B: 2, C: 3}, {Op: api.OpNot, B: -4}, {Op: -1, A: 1, B: 2, C: 3}, {Op: api.OpSame, A: 1, B: 2, C: 3, D: 4},
		{Op: api.OpNext, A: 4, B: 5, C: 6}, {Op: api.OpStep, C: math.MaxInt}, {Op: api.MaxOp + 1, A: 1}, {Op: api.OpCall, A: 1, B: 2, C: 3, D: 4}, {Op: api.OpJump},
	}}
	want := [][2]int{{1, 7}, {2, 2}, {3, -4}, {5, 3}, {6, 6}, {7, math.MaxInt}, {10, 0}}
	each := check.Targets(f)
	for range 2 {
		var got [][2]int
		for at, to := range each {
			got = append(got, [2]int{at, to})
		}
		if !slices.Equal(got, want) {
			t.Errorf("%v, not %v", got, want)
		}
	}
	for n := range want {
		var got [][2]int
		for at, to := range each {
			got = append(got, [2]int{at, to})
			if len(got) == n+1 {
				break
			}
		}
		if !slices.Equal(got, want[:n+1]) {
			t.Errorf("left behind %d: %v", n, got)
		}
	}
	for range check.Targets(api.Fn{}) {
		t.Error("a target of nothing")
	}
}

// P2, P3: nothing that is given is changed or kept, or read behind its length; an answer is its own.
func TestMemory(t *testing.T) {
	m := pair()
	for n := range m.Fns {
		f := &m.Fns[n]
		f.Consts = append(f.Consts, api.Value{Kind: 9})[:len(f.Consts)]
		f.Code = append(f.Code, api.Ins{Op: -1})[:len(f.Code)]
		f.Tries = append(f.Tries, api.Try{From: -1})[:len(f.Tries)]
		f.Caps = append(f.Caps, api.Capture{N: -1})[:len(f.Caps)]
	}
	m.Fns = append(m.Fns, api.Fn{})[:2]
	taken(t, "with more behind", m)
	f := m.Fns[0]
	one, two := check.Reach(f), check.Reach(f)
	each := check.Targets(f)
	clear(one)
	if marks(two) != "xxxxxx" || !code.Same(m, pair()) {
		t.Errorf("%s, %v", marks(two), m)
	}
	clear(f.Code)
	var got [][2]int
	for at, to := range each {
		got = append(got, [2]int{at, to})
	}
	if !slices.Equal(got, [][2]int{{3, 5}}) {
		t.Errorf("%v", got)
	}
	m = pair()
	m.Fns[0].Tries = []api.Try{{From: 0, To: 1}, {From: 3, To: 5}, {From: 0, To: 6}, {From: 0, To: 6}}
	want := copied(m)
	if _, _, e := check.Check(m); e != api.OK || !code.Same(m, want) {
		t.Errorf("error %d, %v", e, m)
	}
	m.Fns[1].Caps = []api.Capture{}
	m.Fns[1].Code = []api.Ins{end}
	m.Fns[1].Consts = []api.Value{}
	m.Fns[1].Tries = []api.Try{}
	taken(t, "empty lists", m)
}
