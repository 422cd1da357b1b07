package code

import (
	"math"

	"lintel/api"
)

// mostDigits is how many bytes the greatest number has.
const mostDigits = 9

// reader reads a module's bytes; what no writer writes it throws.
type reader struct {
	rest []byte
}

// moduleOf is the module of which b is written, from its first byte to its last.
func moduleOf(b []byte) api.Module {
	r := &reader{rest: b}
	hold(string(r.take(len(magic))) == magic)
	m := api.Module{Fns: readList(r, r.function)}
	hold(len(m.Fns) > 0 && len(r.rest) == 0)
	return m
}

// take passes over so many bytes.
func (r *reader) take(n int) []byte {
	hold(n <= len(r.rest))
	b := r.rest[:n]
	r.rest = r.rest[n:]
	return b
}

func (r *reader) number() int {
	sum := 0
	for i := range mostDigits {
		b := r.take(1)[0]
		sum |= int(b&^goesOn) << (digitBits * i)
		if b < goesOn {
			hold(b > 0 || i == 0) // else fewer bytes would do
			return sum
		}
	}
	panic(api.ErrCode)
}

func (r *reader) flag() bool {
	n := r.number()
	hold(n <= 1)
	return n == 1
}

func (r *reader) text() api.Str {
	n := r.number()
	hold(n%2 == 0)
	return api.Str(r.take(n))
}

// readList reads how many there are, and each. Room is made as they come: the number may be greater than there are bytes.
func readList[T any](r *reader, read func() T) []T {
	var l []T
	for range r.number() {
		l = append(l, read())
	}
	return l
}

func (r *reader) function() api.Fn {
	return api.Fn{
		Name:   r.text(),
		Params: r.number(),
		Rest:   r.flag(),
		Arrow:  r.flag(),
		Regs:   r.number(),
		Consts: readList(r, r.constant),
		Code:   readList(r, r.instruction),
		Tries:  readList(r, r.attempt),
		Caps:   readList(r, r.capture),
	}
}

func (r *reader) constant() api.Value {
	switch r.number() {
	case numberTag:
		return api.Value{Kind: api.Number, Num: r.bits()}
	case textTag:
		return api.Value{Kind: api.Text, Str: r.text()}
	}
	panic(api.ErrCode)
}

func (r *reader) bits() float64 {
	bits := uint64(0)
	for _, b := range r.take(numberBytes) {
		bits = bits<<8 | uint64(b)
	}
	x := math.Float64frombits(bits)
	hold(!math.IsNaN(x) || bits == nanBits)
	return x
}

func (r *reader) instruction() api.Ins {
	op := r.number()
	hold(isOp(op))
	var all [mostOperands]int
	for n := range Operands(op) {
		all[n] = r.number()
	}
	return api.Ins{Op: op, A: all[0], B: all[1], C: all[2], D: all[3]}
}

func (r *reader) attempt() api.Try {
	return api.Try{From: r.number(), To: r.number(), At: r.number(), Reg: r.number()}
}

func (r *reader) capture() api.Capture {
	return api.Capture{Up: r.flag(), N: r.number()}
}
