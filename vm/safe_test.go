package vm_test

import (
	"fmt"
	"math/rand"
	"slices"
	"testing"

	"lintel/api"
	"lintel/check"
	lcode "lintel/code"
	"lintel/vm"
)

// modules grows modules that may run, most of which would never come of a script.
type modules struct{ *rand.Rand }

const registers = 7

// consts are those that each grown function has.
func consts() []api.Value {
	return []api.Value{str("print"), str("a"), str("length"), str("1"), str("Error"), str("nowhere"), str("next"), str("toString"), num(1), num(0), num(-1.5), num(3)}
}

const texts = 8 // of the constants: they stand ahead

func (g modules) module() api.Module {
	var x api.Module
	fns := 1 + g.Intn(4)
	caps := make([]int, fns)
	for n := 1; n < fns; n++ {
		caps[n] = g.Intn(3)
	}
	for n := range fns {
		f := api.Fn{Regs: registers, Consts: consts(), Name: utf16("f")}
		if n > 0 {
			f.Params, f.Rest, f.Arrow = g.Intn(4), g.Intn(4) == 0, g.Intn(4) == 0
			for range caps[n] { // the functions that make it have at least so many captures or registers
				up := n > 1 && caps[n-1] > 0 && g.Intn(2) == 0
				c := api.Capture{Up: up, N: g.register(api.OpPeek, 'c')}
				if up {
					c.N = 0
				}
				f.Caps = append(f.Caps, c)
			}
		}
		f.Code = g.code(n, fns, len(f.Caps))
		f.Tries = g.tries(len(f.Code))
		x.Fns = append(x.Fns, f)
	}
	return x
}

// tries are some that lie within one another or are apart.
func (g modules) tries(size int) []api.Try {
	var out []api.Try
	from, to := g.Intn(size), 0
	to = from + 1 + g.Intn(size-from)
	for range g.Intn(4) {
		out = append(out, api.Try{From: from, To: to, At: g.Intn(size), Reg: g.Intn(registers)})
		from, to = g.Intn(from+1), to+g.Intn(size-to+1)
	}
	return out
}

func (g modules) code(number, fns, caps int) []api.Ins {
	size := 3 + g.Intn(30)
	out := []api.Ins{ins(api.OpCell, 1, 0), ins(api.OpList, 2), ins(api.OpKeys, 3, 0), ins(api.OpArray, 4), ins(api.OpIter, 5, 4)}
	for len(out) < size {
		op := g.Intn(api.MaxOp + 1)
		if g.Intn(3) > 0 {
			op = []int{api.OpLoad, api.OpConst, api.OpMove, api.OpGlobal, api.OpCell, api.OpPeek, api.OpPoke, api.OpClosure, api.OpObject, api.OpArray, api.OpList, api.OpPush, api.OpPut, api.OpGet, api.OpSet, api.OpCall, api.OpNew, api.OpIter, api.OpStep, api.OpDone, api.OpReturn, api.OpText, api.OpGetter, api.OpSetter}[g.Intn(24)]
		}
		letters := lcode.Operands(op)
		if op == api.OpClosure && fns == 1 || (op == api.OpUp || op == api.OpUpSet) && caps == 0 {
			continue
		}
		var l []int
		for n, c := range letters {
			if c == 'r' {
				l = append(l, g.register(op, wants(op)[n]))
			} else {
				l = append(l, g.operand(c, size, fns, caps))
			}
		}
		out = append(out, ins(op, l...))
	}
	return append(out, ins([]int{api.OpReturn, api.OpThrow, api.OpJump}[g.Intn(3)], g.register(api.OpReturn, 'v')))
}

// register is, mostly, one that has what is wanted: cells go to 1, lists to 2, enumerations to 3, arrays to 4, iterators to 5.
func (g modules) register(op int, want byte) int {
	if g.Intn(60) == 0 {
		return g.Intn(registers - 1)
	}
	if want == 'w' {
		switch op {
		case api.OpCell:
			return 1
		case api.OpList:
			return 2
		case api.OpKeys:
			return 3
		case api.OpArray:
			return 4
		case api.OpIter:
			return 5
		}
	}
	switch want {
	case 'c':
		return 1
	case 'l':
		return 2
	case 'e':
		return 3
	case 'p':
		return []int{2, 4}[g.Intn(2)]
	case 'i':
		return 5
	}
	return []int{0, 4, 5, 6}[g.Intn(4)]
}

func (g modules) operand(letter rune, size, fns, caps int) int {
	switch letter {
	case 'k':
		return g.Intn(len(consts()))
	case 's':
		return g.Intn(texts)
	case 't':
		return g.Intn(size + 1)
	case 'f':
		return 1 + g.Intn(fns-1)
	case 'u':
		return g.Intn(caps)
	}
	return g.Intn(5)
}

// P21.5, P21.7, P21.3: whatever module check takes, its run ends within the fuel with one of the seven ends, and the same one each time, however the
// machine is flushed.
func TestSafe(t *testing.T) {
	for shard := range 8 {
		t.Run(fmt.Sprint(shard), func(t *testing.T) {
			t.Parallel()
			g := modules{rand.New(rand.NewSource(int64(shard)))}
			taken, ends := 0, make(map[int]int)
			for range 1500 {
				x := g.module()
				if _, _, e := check.Check(x); e != api.OK {
					continue
				}
				taken++
				l := api.Limits{Fuel: 1 + g.Intn(2000), Frames: 1 + g.Intn(100), Cells: 200 + g.Intn(1000)}
				first := safeRun(t, x, l, 0)
				ends[first.End]++
				for how := range 4 {
					if o := safeRun(t, x, l, how); !alike(o, first) {
						t.Fatalf("flushed %d: end %d, %s, not %d, %s\n%s", how, o.End, o.Value, first.End, first.Value, shownModule(x))
					}
				}
			}
			for _, end := range []int{api.EndNormal, api.EndThrow, api.EndLimit, api.EndFuel, api.EndStuck} {
				if ends[end] < taken/50 || taken < 1000 {
					t.Errorf("%d were taken, ends: %v", taken, ends)
				}
			}
		})
	}
}

func safeRun(t *testing.T, x api.Module, l api.Limits, how int) api.Outcome {
	t.Helper()
	m := vm.New(l, host())
	m.Flush(how)
	o := m.Run(x)
	ends := []int{api.EndNormal, api.EndThrow, api.EndLimit, api.EndFuel, api.EndStuck}
	if !slices.Contains(ends, o.End) || m.Spent() > l.Fuel || m.Heap().Used() > l.Cells || (o.Value == "") != (o.End > api.EndThrow) {
		t.Fatalf("end %d, %s, spent %d of %+v\n%s", o.End, o.Value, m.Spent(), l, shownModule(x))
	}
	return o
}

func shownModule(x api.Module) string {
	out := ""
	for n, f := range x.Fns {
		out += fmt.Sprintf("%d: %d %v %v %v %v\n%s", n, f.Params, f.Rest, f.Arrow, f.Caps, f.Tries, lcode.Show(f))
	}
	return out
}
