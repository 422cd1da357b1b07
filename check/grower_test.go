package check_test

import (
	"math"
	"math/rand"
	"slices"
	"testing"

	"lintel/api"
	"lintel/check"
)

// grower grows modules that may run, and changes them.
type grower struct {
	*rand.Rand
}

func newGrower(seed int64) *grower { return &grower{rand.New(rand.NewSource(seed))} }

// operand is one that may stand in an instruction of a function; -1, if there is none.
func (g *grower) operand(m api.Module, f api.Fn, letter byte) int {
	n := map[byte]int{'r': f.Regs, 'k': len(f.Consts), 'n': 5, 't': len(f.Code), 'u': len(f.Caps)}[letter]
	switch {
	case letter == 'f':
		return min(1+g.Intn(len(m.Fns)), len(m.Fns)-1)
	case letter == 's':
		return slices.IndexFunc(f.Consts, func(v api.Value) bool { return v.Kind == api.Text })
	case n == 0:
		return -1
	}
	return g.Intn(n)
}

// instruction is one that may stand in function n, as far as it comes out; a Return, where it does not.
func (g *grower) instruction(m api.Module, f api.Fn, ops ...int) api.Ins {
	for range 5 {
		i := api.Ins{Op: g.Intn(api.MaxOp + 1)}
		if len(ops) > 0 {
			i.Op = ops[g.Intn(len(ops))]
		}
		for n := range lettersOf(i.Op) {
			*slots(&i)[n] = g.operand(m, f, lettersOf(i.Op)[n])
		}
		if there(m, f, i) {
			return i
		}
	}
	return end
}

// tries are such as may be, about a place within one another, or beside each other.
func (g *grower) tries(f api.Fn) []api.Try {
	var l []api.Try
	for range g.Intn(8) {
		from := g.Intn(len(f.Code))
		t := api.Try{From: from, To: from + 1 + g.Intn(len(f.Code)-from), At: g.Intn(len(f.Code)), Reg: g.Intn(f.Regs)}
		if with := append(l[:len(l):len(l)], t); right(with, len(f.Code), f.Regs) {
			l = with
		}
	}
	return l
}

func (g *grower) function(n int) api.Fn {
	f := api.Fn{Name: "\x00f", Regs: 1 + g.Intn(8)}
	if n > 0 {
		f.Rest, f.Arrow, f.Params = g.Intn(2) == 0, g.Intn(2) == 0, g.Intn(f.Regs)
		for range g.Intn(3) {
			f.Caps = append(f.Caps, api.Capture{Up: g.Intn(2) == 0, N: g.Intn(3)})
		}
	}
	for range g.Intn(4) {
		f.Consts = append(f.Consts, []api.Value{text, {Kind: api.Number, Num: g.Float64()}, {Kind: api.Text}}[g.Intn(3)])
	}
	f.Code = make([]api.Ins, 1+g.Intn(12))
	f.Tries = g.tries(f)
	return f
}

// module is one that may run.
func (g *grower) module() api.Module {
	var m api.Module
	for n := range 1 + g.Intn(4) {
		m.Fns = append(m.Fns, g.function(n))
	}
	for _, f := range m.Fns {
		for at := range f.Code {
			f.Code[at] = g.instruction(m, f)
		}
		f.Code[len(f.Code)-1] = g.instruction(m, f, api.OpJump, api.OpReturn, api.OpThrow)
	}
	return m
}

// other is a number near one, or far from it.
func (g *grower) other(n int) int {
	switch g.Intn(8) {
	case 0:
		return []int{math.MinInt, math.MaxInt, -1, 1 << 31, 1<<31 - 1, 4000, 4001}[g.Intn(7)]
	case 1, 2:
		return n + 1
	case 3, 4:
		return n - 1
	}
	return g.Intn(12)
}

// change changes one thing of a module.
func (g *grower) change(m api.Module) {
	f := &m.Fns[g.Intn(len(m.Fns))]
	i := &f.Code[g.Intn(len(f.Code))]
	numbers := []*int{&f.Regs, &f.Params, &i.Op, &i.A, &i.B, &i.C, &i.D, &i.A, &i.B, &i.C, &i.D}
	if len(f.Consts) > 0 {
		v := &f.Consts[g.Intn(len(f.Consts))]
		numbers = append(numbers, &v.Kind)
		if g.Intn(20) == 0 {
			v.Str += "\x00"
		}
	}
	if len(f.Tries) > 0 {
		t := &f.Tries[g.Intn(len(f.Tries))]
		numbers = append(numbers, &t.From, &t.To, &t.At, &t.Reg, &t.From, &t.To)
	}
	if len(f.Caps) > 0 {
		c := &f.Caps[g.Intn(len(f.Caps))]
		c.Up = c.Up != (g.Intn(20) == 0)
		numbers = append(numbers, &c.N, &c.N)
	}
	p := numbers[g.Intn(len(numbers))]
	*p = g.other(*p)
	if g.Intn(15) == 0 {
		f.Rest = !f.Rest
	}
	if g.Intn(30) == 0 {
		f.Code = f.Code[:len(f.Code)-1]
	}
}

// P12.1, P12.4: modules as they come, which may run, and with some of their numbers changed, against the document's words.
func TestGrown(t *testing.T) {
	g := newGrower(1)
	wrong := map[int]int{}
	for range 20000 {
		m := g.module()
		taken(t, "as it came", m)
		for range 10 {
			c := copied(m)
			for range 1 + g.Intn(2) {
				if !slices.ContainsFunc(c.Fns, func(f api.Fn) bool { return len(f.Code) == 0 }) {
					g.change(c)
				}
			}
			n, at, e := checked(c)
			if gotN, gotAt, got := check.Check(c); gotN != n || gotAt != at || got != e {
				t.Fatalf("%v: function %d, place %d, error %d, not %d, %d, %d", c, gotN, gotAt, got, n, at, e)
			}
			wrong[int(e)]++
		}
	}
	if wrong[0] < 20000 || wrong[int(api.ErrCheck)] < 20000 {
		t.Errorf("too few of a kind: %v", wrong)
	}
}

// copied is a module in memory of its own.
func copied(m api.Module) api.Module {
	m.Fns = slices.Clone(m.Fns)
	for n := range m.Fns {
		f := &m.Fns[n]
		f.Consts, f.Code, f.Tries, f.Caps = slices.Clone(f.Consts), slices.Clone(f.Code), slices.Clone(f.Tries), slices.Clone(f.Caps)
	}
	return m
}

// P12.4: in whatever is taken, what instructions name is there when it is read and written, and no way leads off the end.
func TestGuard(t *testing.T) {
	g := newGrower(3)
	some := 0
	for range 50000 {
		m := g.module()
		g.change(m)
		if _, _, e := check.Check(m); e != api.OK {
			continue
		}
		some++
		for _, f := range m.Fns {
			touch(m, f)
		}
	}
	if some < 5000 {
		t.Errorf("just %d may run", some)
	}
}

// touch reads all that a function names: where something is not there it panics.
func touch(m api.Module, f api.Fn) {
	regs := make([]int, f.Regs)
	for at, i := range f.Code {
		for n, letter := range lettersOf(i.Op) {
			x := *slots(&i)[n]
			switch letter {
			case 'r':
				regs[x]++
				if wide(i.Op, n) {
					regs[x+1]++
				}
			case 'k', 's':
				_ = f.Consts[x]
			case 't':
				_ = f.Code[x]
			case 'u':
				_ = f.Caps[x]
			case 'f':
				touchCaptures(f, m.Fns[x].Caps, regs)
			}
		}
		if i.Op != api.OpJump && i.Op != api.OpReturn && i.Op != api.OpThrow {
			_ = f.Code[at+1]
		}
	}
	for _, t := range f.Tries {
		regs[t.Reg]++
		_ = f.Code[t.At]
	}
}

func touchCaptures(f api.Fn, caps []api.Capture, regs []int) {
	for _, c := range caps {
		if c.Up {
			_ = f.Caps[c.N]
		} else {
			regs[c.N]++
		}
	}
}
