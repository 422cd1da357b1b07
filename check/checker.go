package check

import (
	"math"

	"lintel/api"
	"lintel/code"
)

// lastLoaded is the greatest number of what Load puts into a register: the hole's.
const lastLoaded = 4

// checker looks at the functions of a module, one after the other.
type checker struct {
	fns   []api.Fn
	needs []need // of each function
	kinds map[byte]func(*checker, int) bool
	fn    api.Fn // the one that is looked at
}

func newChecker(m api.Module) *checker {
	c := &checker{fns: m.Fns, kinds: kinds()}
	for _, f := range m.Fns {
		c.needs = append(c.needs, needOf(f.Caps))
	}
	return c
}

// kinds says by an operand's letter how it is asked whether there is what it names.
func kinds() map[byte]func(*checker, int) bool {
	return map[byte]func(*checker, int) bool{
		'r': (*checker).register,
		'k': (*checker).constant,
		's': (*checker).text,
		'n': (*checker).number,
		't': (*checker).target,
		'f': (*checker).made,
		'u': (*checker).capture,
	}
}

func (c *checker) register(n int) bool { return 0 <= n && n < c.fn.Regs }

func (c *checker) constant(n int) bool { return 0 <= n && n < len(c.fn.Consts) }

func (c *checker) text(n int) bool { return c.constant(n) && c.fn.Consts[n].Kind == api.Text }

func (c *checker) number(n int) bool { return 0 <= n && n <= math.MaxInt32 }

func (c *checker) target(n int) bool { return 0 <= n && n < len(c.fn.Code) }

func (c *checker) made(n int) bool { return 1 <= n && n < len(c.fns) }

func (c *checker) capture(n int) bool { return 0 <= n && n < len(c.fn.Caps) }

// function answers the place at which function n is wrong, and whether it is right.
func (c *checker) function(n int) (int, bool) {
	c.fn = c.fns[n]
	if !isFunction(c.fn) || n == 0 && !isScript(c.fn) {
		return 0, false
	}
	if at := c.firstWrong(); at < len(c.fn.Code) {
		return at, false
	}
	if !c.triesAreThere() || !nested(c.fn.Tries) {
		return len(c.fn.Code), false
	}
	return 0, true
}

// isFunction says whether all is right about a function but for what names something in it.
func isFunction(f api.Fn) bool {
	if f.Regs < 1 || f.Regs > api.MaxRegs {
		return false
	}
	room := f.Regs
	if f.Rest {
		room--
	}
	if f.Params < 0 || f.Params > room || len(f.Code) == 0 {
		return false
	}
	for _, v := range f.Consts {
		if v.Kind != api.Number && (v.Kind != api.Text || len(v.Str)%2 != 0) {
			return false
		}
	}
	return true
}

func isScript(f api.Fn) bool { return f.Params == 0 && !f.Rest && len(f.Caps) == 0 && !f.Arrow }

// firstWrong is the number of the first instruction that is wrong; if none is, how many there are.
func (c *checker) firstWrong() int {
	at := 0
wrong:
	for ; at < len(c.fn.Code); at++ {
		i := c.fn.Code[at]
		letters := code.Operands(i.Op)
		if letters == "" { // an instruction without operands there is none
			break
		}
		for n, x := range operands(i) {
			if n >= len(letters) && x != 0 || n < len(letters) && !c.kinds[letters[n]](c, x) {
				break wrong
			}
		}
		if !c.allThere(i) || at == len(c.fn.Code)-1 && !leaves(i.Op) {
			break
		}
	}
	return at
}

// allThere says whether there is what an instruction reads or writes beside what its operands, which are right, name.
func (c *checker) allThere(i api.Ins) bool {
	switch i.Op {
	case api.OpLoad:
		return i.B <= lastLoaded
	case api.OpIter:
		return c.register(i.A + 1)
	case api.OpStep:
		return c.register(i.B + 1)
	case api.OpClosure:
		return c.needs[i.B].metBy(c.fn)
	}
	return true
}

// need is what a function takes of the one that makes it: the greatest numbers of its captures and registers (-1: none), and the least of all.
// It is worked out once: a function may be made at many places.
type need struct{ capture, register, least int }

func needOf(l []api.Capture) need {
	n := need{capture: -1, register: -1}
	for _, c := range l {
		n.least = min(n.least, c.N)
		if c.Up {
			n.capture = max(n.capture, c.N)
		} else {
			n.register = max(n.register, c.N)
		}
	}
	return n
}

func (n need) metBy(f api.Fn) bool {
	return n.least >= 0 && n.capture < len(f.Caps) && n.register < f.Regs
}
