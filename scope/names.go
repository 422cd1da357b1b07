package scope

import "lintel/api"

// scope is a map from its names to the numbers of their bindings; it embeds the scope about it.
type scope struct {
	*scope // nil: it is the script's
	node   int
	fn     int // the function in which it stands; the script, if that is none
	names  map[string]int
	find   func(name string) int // what a name means here; -1: no binding
}

// within is the scope, without names yet, that a node of some function begins in s.
func (s *scope) within(node, fn int) *scope {
	inner := &scope{scope: s, node: node, fn: fn, names: make(map[string]int)}
	inner.find = func(name string) int {
		if b, ok := inner.names[name]; ok {
			return b
		}
		if s == nil {
			return -1
		}
		return s.find(name)
	}
	return inner
}

func isFunction(kind int) bool {
	return kind == api.NodeFunc || kind == api.NodeArrow || kind == api.NodeFun
}
