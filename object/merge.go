package object

import (
	"strings"

	"lintel/api"
	"lintel/nums"
	"lintel/units"
)

const (
	namesValue    = api.HasValue | api.HasWritable
	namesAccessor = api.HasGet | api.HasSet
	namesAll      = namesValue | namesAccessor | api.HasEnumerable | api.HasConfigurable
)

func isAccessor(p api.Prop) bool { return p.Flags&api.Accessor != 0 }

// isFixed: whether p is a value that may not be written. (Writable says nothing of an accessor.)
func isFixed(p api.Prop) bool { return p.Flags&(api.Accessor|api.Writable) == 0 }

// Merge: P16.1, P16.6, P16.7.
func Merge(was api.Prop, is bool, open bool, d api.Desc) (api.Prop, bool) {
	p, ok := merge(was, is, open, d)
	if !ok {
		return api.Prop{}, false
	}
	p.Value, p.Get, p.Set = copied(p.Value), copied(p.Get), copied(p.Set)
	return p, true
}

// copied is v with a copy of its text.
func copied(v api.Value) api.Value {
	v.Str = api.Str(strings.Clone(string(v.Str)))
	return v
}

// merge is Merge, but that the property shares the texts of was and d.
func merge(was api.Prop, is bool, open bool, d api.Desc) (api.Prop, bool) {
	if !isDesc(d) {
		return api.Prop{}, false
	}
	m := merging{was: was, desc: d}
	switch {
	case !is && !open:
		return api.Prop{}, false
	case !is:
		m.prop = bareProp(0, d)
	case m.isOtherSort():
		m.prop = bareProp(was.Flags&(api.Enumerable|api.Configurable), d)
	default:
		m.prop = counted(was)
	}
	m.stays = is && was.Flags&api.Configurable == 0
	ok := m.do()
	return m.prop, ok
}

// isDesc: whether d names what goes together.
func isDesc(d api.Desc) bool {
	return d.Has&^namesAll == 0 && (d.Has&namesValue == 0 || d.Has&namesAccessor == 0)
}

// bareProp is a property of the sort that d names, of which nothing is taken over yet.
func bareProp(flags int, d api.Desc) api.Prop {
	if d.Has&namesAccessor != 0 {
		flags |= api.Accessor
	}
	return api.Prop{Flags: flags}
}

// counted is p with the fields that its sort names.
func counted(p api.Prop) api.Prop {
	if isAccessor(p) {
		return api.Prop{Get: p.Get, Set: p.Set, Flags: p.Flags}
	}
	return api.Prop{Value: p.Value, Flags: p.Flags}
}

// merging is a property on its way to what a description makes of it.
type merging struct {
	was, prop api.Prop
	stays     bool // something stood there, which is not Configurable
	desc      api.Desc
}

func (m *merging) isOtherSort() bool {
	if isAccessor(m.was) {
		return m.desc.Has&namesValue != 0
	}
	return m.desc.Has&namesAccessor != 0
}

// part is one of those that a description may name: it is taken over, unless what stood there forbids it.
type part struct {
	name int // of Has
	take func() bool
}

// do does the parts that are named, one by one, and tells whether each may be taken over.
func (m *merging) do() bool {
	if m.stays && m.isOtherSort() {
		return false
	}
	parts := [...]part{
		{api.HasValue, m.takeValue},
		{api.HasWritable, m.takeWritable},
		{api.HasGet, m.takeGet},
		{api.HasSet, m.takeSet},
		{api.HasEnumerable, m.takeEnumerable},
		{api.HasConfigurable, m.takeConfigurable},
	}
	for _, p := range parts {
		if m.desc.Has&p.name != 0 && !p.take() {
			return false
		}
	}
	return true
}

func (m *merging) takeValue() bool {
	if m.stays && isFixed(m.was) {
		return alike(m.was.Value, m.desc.Prop.Value)
	}
	m.prop.Value = m.desc.Prop.Value
	return true
}

func (m *merging) takeWritable() bool {
	if m.stays && isFixed(m.was) {
		return !m.sets(api.Writable)
	}
	m.takeFlag(api.Writable)
	return true
}

func (m *merging) takeGet() bool {
	if m.stays {
		return alike(m.was.Get, m.desc.Prop.Get)
	}
	m.prop.Get = m.desc.Prop.Get
	return true
}

func (m *merging) takeSet() bool {
	if m.stays {
		return alike(m.was.Set, m.desc.Prop.Set)
	}
	m.prop.Set = m.desc.Prop.Set
	return true
}

func (m *merging) takeEnumerable() bool {
	if m.stays {
		return m.sets(api.Enumerable) == (m.was.Flags&api.Enumerable != 0)
	}
	m.takeFlag(api.Enumerable)
	return true
}

func (m *merging) takeConfigurable() bool {
	if m.stays {
		return !m.sets(api.Configurable)
	}
	m.takeFlag(api.Configurable)
	return true
}

// sets: whether the description has that flag set.
func (m *merging) sets(flag int) bool { return m.desc.Prop.Flags&flag != 0 }

func (m *merging) takeFlag(flag int) {
	m.prop.Flags = m.prop.Flags&^flag | m.desc.Prop.Flags&flag
}

// alike: whether values are alike. Fields that their kind does not name say nothing.
func alike(a, b api.Value) bool {
	if a.Kind != b.Kind {
		return false
	}
	switch a.Kind {
	case api.Bool, api.Number:
		return nums.Same(a.Num, b.Num, api.SameValue)
	case api.Text:
		return units.Compare(a.Str, b.Str) == 0
	case api.Symbol, api.Object:
		return a.Ref == b.Ref
	}
	return true
}
