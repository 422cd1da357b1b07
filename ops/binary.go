package ops

import (
	"lintel/api"
	"lintel/conv"
	"lintel/nums"
	"lintel/units"
)

// pair is what a binary operator stands between.
type pair struct{ a, b api.Value }

// The binary operators lie in three maps of few entries each: such a one is made where it is asked at
// little cost, one of all twenty isn't.

// sums are the operators of numbers; + is one of texts, too.
func sums() map[string]func(pair) api.Value {
	return map[string]func(pair) api.Value{
		"+":  pair.add,
		"-":  pair.subtract,
		"*":  pair.multiply,
		"/":  pair.divide,
		"%":  pair.rest,
		"**": pair.power,
	}
}

// comparisons are the operators that answer whether something is so.
func comparisons() map[string]func(pair) bool {
	return map[string]func(pair) bool{
		"===": pair.same,
		"!==": pair.unlike,
		"==":  pair.equal,
		"!=":  pair.unequal,
		"<":   pair.below,
		">":   pair.above,
		"<=":  pair.notAbove,
		">=":  pair.notBelow,
	}
}

// shifts are the operators of integers of 32 bits.
func shifts() map[string]func(pair) float64 {
	return map[string]func(pair) float64{
		"<<":  pair.left,
		">>":  pair.right,
		">>>": pair.over,
		"&":   pair.and,
		"|":   pair.or,
		"^":   pair.either,
	}
}

// primitives throws, if one of the two is an object.
func (p pair) primitives() {
	primitive(p.a)
	primitive(p.b)
}

// numbers are the Numbers of two primitives that have them.
func (p pair) numbers() (float64, float64) {
	p.primitives()
	return numeric(p.a), numeric(p.b)
}

// add is of numbers, unless there is a text.
func (p pair) add() api.Value {
	if p.a.Kind == api.Text || p.b.Kind == api.Text {
		p.primitives()
		return text(p.joined())
	}
	x, y := p.numbers()
	return number(x + y)
}

// joined is the Texts of two primitives, one behind the other.
func (p pair) joined() api.Str {
	s, e := units.Join(written(p.a), written(p.b))
	hold(e == api.OK, api.ErrTooBig)
	return s
}

// written is the Text of what is no object; it throws, if v is a symbol. A text itself is handed on as it
// is: what is joined of it is new anyway.
func written(v api.Value) api.Str {
	if v.Kind == api.Text {
		return v.Str
	}
	s, is := conv.Text(v)
	hold(is, api.ErrType)
	return s
}

func (p pair) subtract() api.Value {
	x, y := p.numbers()
	return number(x - y)
}

func (p pair) multiply() api.Value {
	x, y := p.numbers()
	return number(x * y)
}

func (p pair) divide() api.Value {
	x, y := p.numbers()
	return number(x / y)
}

func (p pair) rest() api.Value {
	x, y := p.numbers()
	return number(nums.Rem(x, y))
}

func (p pair) power() api.Value {
	x, y := p.numbers()
	return number(nums.Pow(x, y))
}

func (p pair) left() float64 { return nums.Left(p.numbers()) }

func (p pair) right() float64 { return nums.Right(p.numbers()) }

func (p pair) over() float64 { return nums.Over(p.numbers()) }

func (p pair) and() float64 {
	x, y := p.integers()
	return float64(x & y)
}

func (p pair) or() float64 {
	x, y := p.integers()
	return float64(x | y)
}

func (p pair) either() float64 {
	x, y := p.integers()
	return float64(x ^ y)
}

// integers are the Numbers as integers of 32 bits.
func (p pair) integers() (int32, int32) {
	x, y := p.numbers()
	return nums.Int32(x), nums.Int32(y)
}
