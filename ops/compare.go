package ops

import (
	"lintel/api"
	"lintel/conv"
	"lintel/nums"
	"lintel/units"
)

func (p pair) same() bool { return conv.Same(p.a, p.b, api.SameStrict) }

func (p pair) unlike() bool { return !p.same() }

func (p pair) equal() bool {
	is, known := conv.Loose(p.a, p.b)
	hold(known, api.ErrPrim)
	return is
}

func (p pair) unequal() bool { return !p.equal() }

func (p pair) below() bool {
	less, _ := p.less()
	return less
}

func (p pair) above() bool { return p.turned().below() }

func (p pair) notBelow() bool {
	less, ordered := p.less()
	return ordered && !less
}

func (p pair) notAbove() bool { return p.turned().notBelow() }

// turned is the pair the other way round. What is thrown doesn't tell its sides apart.
func (p pair) turned() pair { return pair{p.b, p.a} }

// less says whether a stands ahead of b, and whether the two have an order: NaN has none.
func (p pair) less() (bool, bool) {
	if p.a.Kind == api.Text && p.b.Kind == api.Text {
		return units.Compare(p.a.Str, p.b.Str) < 0, true
	}
	return nums.Less(p.numbers())
}
