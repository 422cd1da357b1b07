package code

import (
	"math"

	"lintel/api"
	"lintel/nums"
	"lintel/units"
)

const (
	magic       = "LNT1" // what a module's bytes begin with
	numberTag   = 0      // ahead of a constant that is a Number
	textTag     = 1      // ahead of a Text
	numberBytes = 8      // of a Number's bits
	nanBits     = 0x7FF8000000000000
	digitBits   = 7              // of a number, in each of its bytes
	goesOn      = 1 << digitBits // the bit of a byte of a number that isn't its last one
)

// writer writes a module's bytes; what may not stand in one it throws.
type writer struct {
	out  []byte
	size int // of all that was written
}

// put writes bytes. Those beyond the limit are counted and not kept: what is wrong behind them is still to be found.
func (w *writer) put(s string) {
	w.size += len(s)
	if w.size <= api.MaxCode {
		w.out = append(w.out, s...)
	}
}

func (w *writer) putByte(b byte) {
	w.size++
	if w.size <= api.MaxCode {
		w.out = append(w.out, b)
	}
}

func (w *writer) number(n int) {
	hold(n >= 0)
	for ; n >= goesOn; n >>= digitBits {
		w.putByte(byte(n) | goesOn)
	}
	w.putByte(byte(n))
}

func (w *writer) flag(is bool) {
	if is {
		w.number(1)
	} else {
		w.number(0)
	}
}

func (w *writer) text(s api.Str) {
	hold(len(s)%2 == 0)
	w.number(len(s))
	w.put(string(s))
}

// writeList writes how many there are, and each.
func writeList[T any](w *writer, l []T, write func(T)) {
	w.number(len(l))
	for _, x := range l {
		write(x)
	}
}

func (w *writer) module(m api.Module) {
	hold(len(m.Fns) > 0)
	w.put(magic)
	writeList(w, m.Fns, w.function)
}

func (w *writer) function(f api.Fn) {
	w.text(f.Name)
	w.number(f.Params)
	w.flag(f.Rest)
	w.flag(f.Arrow)
	w.number(f.Regs)
	writeList(w, f.Consts, w.constant)
	writeList(w, f.Code, w.instruction)
	writeList(w, f.Tries, w.attempt)
	writeList(w, f.Caps, w.capture)
}

// constant writes a Number or a Text. One with a field that its kind does not name is neither: what is read again would not be it.
func (w *writer) constant(v api.Value) {
	hold(v.Ref == 0)
	switch v.Kind {
	case api.Number:
		hold(units.Len(v.Str) == 0)
		w.number(numberTag)
		w.bits(v.Num)
	case api.Text:
		hold(nums.Same(v.Num, 0, api.SameValue))
		w.number(textTag)
		w.text(v.Str)
	default:
		panic(api.ErrCode)
	}
}

// bits writes a Number's bits, the highest ahead; of all NaNs the same.
func (w *writer) bits(x float64) {
	bits := math.Float64bits(x)
	if math.IsNaN(x) {
		bits = nanBits
	}
	for i := numberBytes - 1; i >= 0; i-- {
		w.putByte(byte(bits >> (8 * i)))
	}
}

func (w *writer) instruction(i api.Ins) {
	hold(isOp(i.Op))
	w.number(i.Op)
	all := operands(i)
	for n := range Operands(i.Op) {
		w.number(all[n])
	}
	for n := len(Operands(i.Op)); n < mostOperands; n++ {
		hold(all[n] == 0)
	}
}

func (w *writer) attempt(t api.Try) {
	w.number(t.From)
	w.number(t.To)
	w.number(t.At)
	w.number(t.Reg)
}

func (w *writer) capture(c api.Capture) {
	w.flag(c.Up)
	w.number(c.N)
}
