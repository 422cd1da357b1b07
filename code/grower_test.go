package code_test

import (
	"encoding/binary"
	"math"
	"math/rand"
	"strings"

	"lintel/api"
	"lintel/code"
)

// grower grows modules as they come.
type grower struct {
	*rand.Rand
}

func newGrower(seed int64) *grower { return &grower{rand.New(rand.NewSource(seed))} }

// number is one from 0 on, mostly one at which the count of its bytes changes.
func (g *grower) number() int {
	switch g.Intn(4) {
	case 0:
		return g.Intn(200)
	case 1:
		return int(g.Uint64() >> (1 + g.Intn(63)))
	case 2:
		return min(1<<(7*(1+g.Intn(9)))-1, math.MaxInt) // all bits of so many bytes
	}
	return 1 << (7 * g.Intn(9))
}

func (g *grower) text() api.Str {
	b := make([]byte, 2*g.Intn(5))
	g.Read(b)
	if g.Intn(20) == 0 {
		return api.Str(strings.Repeat("\x00a", 60+g.Intn(10)))
	}
	return api.Str(b)
}

func (g *grower) constant() api.Value {
	edges := []float64{0, math.Copysign(0, -1), 1, -1.5, math.Inf(1), math.Inf(-1), math.NaN(), math.MaxFloat64, 5e-324}
	switch g.Intn(4) {
	case 0:
		return api.Value{Kind: api.Number, Num: edges[g.Intn(len(edges))]}
	case 1:
		return api.Value{Kind: api.Number, Num: math.Float64frombits(g.Uint64() | uint64(g.Intn(2))*0xFFF<<52)}
	}
	return api.Value{Kind: api.Text, Str: g.text()}
}

func (g *grower) instruction() api.Ins {
	i := api.Ins{Op: g.Intn(api.MaxOp + 1)}
	for n, p := range []*int{&i.A, &i.B, &i.C, &i.D} {
		if n < len(code.Operands(i.Op)) {
			*p = g.number()
		}
	}
	return i
}

func (g *grower) attempt() api.Try {
	return api.Try{From: g.number(), To: g.number(), At: g.number(), Reg: g.number()}
}

func (g *grower) capture() api.Capture { return api.Capture{Up: g.Intn(2) == 0, N: g.number()} }

func some[T any](g *grower, most int, one func() T) []T {
	var l []T
	for range g.Intn(most + 1) {
		l = append(l, one())
	}
	return l
}

func (g *grower) function() api.Fn {
	return api.Fn{
		Name: g.text(), Params: g.number(), Rest: g.Intn(2) == 0, Arrow: g.Intn(2) == 0, Regs: g.number(),
		Consts: some(g, 4, g.constant), Code: some(g, 5, g.instruction), Tries: some(g, 2, g.attempt), Caps: some(g, 2, g.capture),
	}
}

func (g *grower) module() api.Module {
	return api.Module{Fns: append(some(g, 2, g.function), g.function())}
}

// oracle writes a module's bytes by the document's words, asking the library for numbers.
type oracle struct {
	out []byte
}

func (o *oracle) numbers(l ...int) {
	for _, n := range l {
		o.out = binary.AppendUvarint(o.out, uint64(n))
	}
}

func (o *oracle) flag(is bool) {
	o.out = append(o.out, map[bool]byte{true: 1}[is])
}

func (o *oracle) text(s api.Str) {
	o.numbers(len(s))
	o.out = append(o.out, s...)
}

func (o *oracle) constant(v api.Value) {
	if v.Kind == api.Text {
		o.out = append(o.out, 1)
		o.text(v.Str)
		return
	}
	bits := math.Float64bits(v.Num)
	if v.Num != v.Num {
		bits = 0x7FF8 << 48
	}
	o.out = binary.BigEndian.AppendUint64(append(o.out, 0), bits)
}

func (o *oracle) module(m api.Module) []byte {
	o.out = []byte("LNT1")
	o.numbers(len(m.Fns))
	for _, f := range m.Fns {
		o.text(f.Name)
		o.numbers(f.Params)
		o.flag(f.Rest)
		o.flag(f.Arrow)
		o.numbers(f.Regs, len(f.Consts))
		for _, v := range f.Consts {
			o.constant(v)
		}
		o.numbers(len(f.Code))
		for _, i := range f.Code {
			o.numbers(append([]int{i.Op}, []int{i.A, i.B, i.C, i.D}[:len(code.Operands(i.Op))]...)...)
		}
		o.numbers(len(f.Tries))
		for _, t := range f.Tries {
			o.numbers(t.From, t.To, t.At, t.Reg)
		}
		o.numbers(len(f.Caps))
		for _, c := range f.Caps {
			o.flag(c.Up)
			o.numbers(c.N)
		}
	}
	return o.out
}
