package vm

import (
	"lintel/api"
	"lintel/conv"
	"lintel/keys"
	"lintel/ops"
)

// prim is an object as a primitive: with the wish for a text, or not.
func (m *Machine) prim(v api.Value, wish bool) api.Value {
	if v.Kind != api.Object {
		return v
	}
	order := [2]api.Key{m.names.valueOf, m.names.toString}
	if wish {
		order = [2]api.Key{m.names.toString, m.names.valueOf}
	}
	for _, k := range order {
		f := m.get(nil, v, k)
		if !m.isFunction(f) {
			continue
		}
		if p := m.invoke(f, v); p.Kind != api.Object {
			return p
		}
	}
	m.fail(api.TypeError)
	return api.Value{}
}

func (m *Machine) number(v api.Value) float64 {
	x, is := conv.Number(m.prim(v, false))
	m.must(is)
	return x
}

func (m *Machine) text(v api.Value) api.Str {
	s, is := conv.Text(m.prim(v, true))
	m.must(is)
	return s
}

func (m *Machine) key(v api.Value) api.Key {
	switch v = m.prim(v, true); {
	case v.Kind == api.Text:
		return api.Key{Name: v.Str} // as it is: nobody keeps it
	case v.Kind == api.Number && 0 <= v.Num && v.Num < 1<<32 && v.Num == float64(uint32(v.Num)):
		return keys.Of(uint32(v.Num)) // what conv answers, sooner
	}
	k, is := conv.Key(v)
	m.must(is)
	return k
}

// typeOf is typeof.
func (m *Machine) typeOf(v api.Value) api.Str {
	if m.isFunction(v) {
		return word("function")
	}
	return word(conv.Type(v))
}

// binary does an operator between two values.
func (m *Machine) binary(sign string, a, b api.Value) api.Value {
	switch sign {
	case "in":
		return truth(m.has(a, b))
	case "instanceof":
		return truth(m.isInstance(a, b))
	case "==", "!=":
		if _, known := conv.Loose(a, b); known {
			break // an object stays one, unless it is one alone
		}
		fallthrough
	default:
		if ops.Hint(sign) > 0 {
			a = m.prim(a, false)
			b = m.prim(b, false)
		}
	}
	return m.done(ops.Binary(sign, a, b))
}

// unary does an operator that makes a number of a value.
func (m *Machine) unary(sign string, v api.Value) api.Value {
	return m.done(ops.Unary(sign, m.prim(v, false)))
}

// done takes what an operator over primitives has answered.
func (m *Machine) done(v api.Value, e api.Errno) api.Value {
	if e == api.ErrTooBig {
		m.halt(api.EndLimit)
	}
	m.must(e == api.OK)
	return v
}
