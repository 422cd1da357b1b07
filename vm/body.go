package vm

import (
	"cmp"
	"slices"

	"lintel/api"
)

// body is a function of a module, with what is worked out for it once.
type body struct {
	api.Fn
	fns    []*body // of its module
	values []any   // in place of the constants: as registers have them
	sites  []site  // by instructions
	inner  []int   // by instructions: the innermost try about it; -1: none; nil: nothing was thrown here yet
}

// bodiesOf is a module's functions in memory of their own: closures may be called when whoever handed the module in has changed it.
func bodiesOf(x api.Module) []*body {
	out := make([]*body, len(x.Fns))
	for n, f := range x.Fns {
		b := &body{Fn: f, fns: out, sites: make([]site, len(f.Code))}
		for _, v := range f.Consts {
			b.values = append(b.values, clean(v))
		}
		b.Name, b.Consts = copied(f.Name), nil
		b.Code, b.Tries, b.Caps = slices.Clone(f.Code), slices.Clone(f.Tries), slices.Clone(f.Caps)
		out[n] = b
	}
	return out
}

// text is a constant that check has found to be a text.
func (b *body) text(n int) api.Str { return b.values[n].(api.Value).Str }

// catcher is the innermost try about an instruction.
func (b *body) catcher(at int) (api.Try, bool) {
	if b.inner == nil {
		b.inner = innermost(b.Tries, len(b.Code))
	}
	n := b.inner[at]
	if n < 0 {
		return api.Try{}, false
	}
	return b.Tries[n], true
}

// innermost says for each instruction which try is the innermost about it. They are gone through together, with those about the place kept,
// so that many tries take no longer than few.
func innermost(l []api.Try, size int) []int {
	out, order := make([]int, size), byPlace(l)
	var about []int
	for at := range out {
		for len(about) > 0 && l[about[len(about)-1]].To <= at {
			about = about[:len(about)-1]
		}
		for len(order) > 0 && l[order[0]].From == at {
			about, order = append(about, order[0]), order[1:]
		}
		out[at] = -1
		if len(about) > 0 {
			out[at] = about[len(about)-1]
		}
	}
	return out
}

// byPlace is the tries' numbers in the order in which they begin, an outer one ahead: of two the later is the outer.
func byPlace(l []api.Try) []int {
	order := make([]int, len(l))
	for n := range order {
		order[n] = n
	}
	slices.SortFunc(order, func(a, b int) int {
		return cmp.Or(cmp.Compare(l[a].From, l[b].From), cmp.Compare(b, a))
	})
	return order
}
