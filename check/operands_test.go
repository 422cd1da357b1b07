package check_test

import (
	"math"
	"strings"
	"testing"

	"lintel/api"
)

// letters are the operands of the instructions from 0 on, by the document's table; behind them all have three registers.
var letters = strings.Fields("rn rk rr r r rs rs sr rr rr rr ru ur rs s rf t rt rt rnt r r r rr rr rrr rrr rrr rrr rrr rrr rr rrrr rrr r r rr rrt rr rrt r r rr r rr rr rr rr rr")

// lettersOf is an instruction's operands.
func lettersOf(op int) string {
	if op < len(letters) {
		return letters[op]
	}
	return "rrr"
}

// slots are an instruction's operands.
func slots(i *api.Ins) []*int { return []*int{&i.A, &i.B, &i.C, &i.D} }

// least is an instruction whose operands are the least that they may be where there is a text as constant 1.
func least(op int) api.Ins {
	i := api.Ins{Op: op}
	for n, letter := range lettersOf(op) {
		*slots(&i)[n] = map[rune]int{'s': 1, 'f': 1}[letter]
	}
	return i
}

// room is a module in whose second function, of five instructions, the third is looked at: 6 registers, constants of which 1 and 3 are texts,
// 3 captures, 4 functions.
func room(i api.Ins) api.Module {
	m := pair()
	m.Fns[1] = api.Fn{
		Regs: 6, Consts: []api.Value{{Kind: api.Number}, text, {Kind: api.Number}, text, {Kind: api.Number}},
		Code: []api.Ins{end, end, i, end, end}, Caps: make([]api.Capture, 3),
	}
	f := api.Fn{Regs: 1, Code: []api.Ins{end}}
	m.Fns = append(m.Fns, f, f)
	return m
}

// P12.1, P12.4: each operand of each instruction: what may stand there, and what may not.
func TestOperands(t *testing.T) {
	good := map[rune][]int{'r': {0, 1, 5}, 'k': {0, 1, 4}, 's': {1, 3}, 'n': {0, 1, 4, 5, 65536, math.MaxInt32}, 't': {0, 2, 4}, 'f': {1, 3}, 'u': {0, 2}}
	bad := map[rune][]int{'r': {6}, 'k': {5}, 's': {0, 2, 4, 5}, 'n': {math.MaxInt32 + 1}, 't': {5}, 'f': {0, 4}, 'u': {3}}
	for op := range api.MaxOp + 1 {
		taken(t, "the least", room(least(op)))
		for n := range 4 {
			i := least(op)
			may, mayNot := []int{0}, []int{1, 4, -1, math.MaxInt, math.MinInt}
			if n < len(lettersOf(op)) {
				letter := rune(lettersOf(op)[n])
				may, mayNot = good[letter], append([]int{-1, math.MaxInt, math.MinInt}, bad[letter]...)
			}
			for _, x := range may {
				*slots(&i)[n] = x
				if wide(op, n) && x == 5 || op == api.OpLoad && n == 1 && x > 4 {
					refused(t, "one too far", room(i), 1, 2)
				} else {
					taken(t, "an operand", room(i))
				}
			}
			for _, x := range mayNot {
				*slots(&i)[n] = x
				refused(t, "an operand", room(i), 1, 2)
			}
		}
	}
}

// wide says whether an operand is a register that stands for the one behind it, too.
func wide(op, n int) bool { return op == api.OpIter && n == 0 || op == api.OpStep && n == 1 }

// P12.1: Iter and Step need a second register, the other operands of theirs none.
func TestTwoRegisters(t *testing.T) {
	for _, i := range []api.Ins{{Op: api.OpIter, A: 2, B: 3}, {Op: api.OpIter, A: 0, B: 0}, {Op: api.OpStep, A: 3, B: 2}, {Op: api.OpStep, A: 0, B: 0}} {
		taken(t, "in the room", script(i, end))
	}
	for _, i := range []api.Ins{{Op: api.OpIter, A: 3}, {Op: api.OpStep, B: 3}, {Op: api.OpIter, A: 4}, {Op: api.OpStep, B: 4}} {
		refused(t, "past the room", script(i, end), 0, 0)
	}
}

// P12.1: what Load may put into a register; a number of Same goes up to 2^31 - 1.
func TestNumbers(t *testing.T) {
	for n := range 5 {
		taken(t, "Load", script(api.Ins{Op: api.OpLoad, B: n}, end))
	}
	for _, n := range []int{-1, 5, 6, math.MaxInt32, math.MaxInt} {
		refused(t, "Load", script(api.Ins{Op: api.OpLoad, B: n}, end), 0, 0)
	}
	for _, n := range []int{0, 5, math.MaxInt32} {
		taken(t, "Same", script(api.Ins{Op: api.OpSame, B: n}, end))
	}
	for _, n := range []int{-1, math.MinInt32, math.MaxInt32 + 1, math.MaxUint32, 1 << 32, math.MaxInt} {
		refused(t, "Same", script(api.Ins{Op: api.OpSame, B: n}, end), 0, 0)
	}
}

// P12.1: a constant of each function is its own, a register, a capture.
func TestOwn(t *testing.T) {
	m := pair() // texts: 0 of the script's constants, 1 of the function's
	m.Fns[0].Code[0] = api.Ins{Op: api.OpGlobal, B: 0}
	m.Fns[1].Code[0] = api.Ins{Op: api.OpGlobal, B: 1}
	taken(t, "a text", m)
	m.Fns[1].Code[0].B = 0
	refused(t, "the script's text", m, 1, 0)
	m.Fns[0].Code[0].B = 1
	refused(t, "the function's text", m, 0, 0)
	m.Fns[0].Code[0] = api.Ins{Op: api.OpUp}
	refused(t, "the function's capture", m, 0, 0)
}
