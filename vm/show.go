package vm

import (
	"lintel/api"
	"lintel/array"
	"lintel/conv"
	"lintel/digits"
	"lintel/lex"
	"lintel/units"
)

// Show: P21.13.
func (m *Machine) Show(v api.Value) string {
	if !m.isMade() {
		return ""
	}
	return m.shown(v)
}

func (m *Machine) shown(v api.Value) string {
	switch v.Kind {
	case api.Text:
		return lex.Quote(v.Str)
	case api.Symbol:
		return "Symbol(" + units.Text(m.About(v)) + ")"
	case api.Object:
		return m.shownObject(v)
	}
	s, _ := conv.Text(v)
	return units.Text(s)
}

func (m *Machine) shownObject(v api.Value) string {
	if m.isFunction(v) {
		p, _ := m.heap.Own(v.Ref, m.names.name)
		return "[function " + textOr(p, "") + "]"
	}
	switch m.heap.Class(v.Ref) {
	case api.ClassArray:
		n, _ := array.Length(m.heap, v.Ref)
		return "[array " + units.Text(digits.Show(float64(n))) + "]"
	case api.ClassError:
		return m.shownError(v)
	}
	return "[object]"
}

// shownError is an error's name and message, for which nothing is called.
func (m *Machine) shownError(v api.Value) string {
	name, _ := m.find(nil, v, m.names.name)
	message, _ := m.find(nil, v, m.names.message)
	s := textOr(message, "")
	if s == "" {
		return textOr(name, "Error")
	}
	return textOr(name, "Error") + ": " + s
}

// textOr is what a property has, if that is a text, or else something other.
func textOr(p api.Prop, other string) string {
	if p.Value.Kind != api.Text { // an accessor has no Value
		return other
	}
	return units.Text(p.Value.Str)
}
