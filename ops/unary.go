package ops

import (
	"lintel/api"
	"lintel/conv"
	"lintel/nums"
	"lintel/units"
)

// operand is the value behind a unary operator.
type operand api.Value

// signs are the unary operators.
func signs() map[string]func(operand) api.Value {
	return map[string]func(operand) api.Value{
		"!":      operand.not,
		"typeof": operand.kind,
		"void":   operand.void,
		"+":      operand.plus,
		"-":      operand.minus,
		"~":      operand.flip,
	}
}

func (o operand) not() api.Value { return truth(!conv.Truthy(api.Value(o))) }

func (o operand) kind() api.Value {
	s, _, _ := units.Of(conv.Type(api.Value(o))) // letters alone
	return text(s)
}

func (operand) void() api.Value { return api.Value{} }

func (o operand) plus() api.Value { return number(o.numeric()) }

func (o operand) minus() api.Value { return number(-o.numeric()) }

func (o operand) flip() api.Value { return number(float64(^nums.Int32(o.numeric()))) }

// numeric is the Number of a primitive that has one.
func (o operand) numeric() float64 {
	primitive(api.Value(o))
	return numeric(api.Value(o))
}
