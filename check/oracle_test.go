package check_test

import "lintel/api"

// right says by the document's words whether tries may be in a function of so many instructions and registers.
func right(l []api.Try, code, regs int) bool {
	for i, t := range l {
		if !(0 <= t.From && t.From < t.To && t.To <= code) || t.At < 0 || t.At >= code || t.Reg < 0 || t.Reg >= regs {
			return false
		}
		for _, u := range l[i+1:] {
			apart := t.To <= u.From || u.To <= t.From
			within := u.From <= t.From && t.To <= u.To
			if !apart && !within {
				return false
			}
		}
	}
	return true
}

// headed says by the document's words whether a function is right at place 0.
func headed(n int, f api.Fn) bool {
	if f.Regs < 1 || f.Regs > 4000 || f.Params < 0 || f.Params > f.Regs || f.Rest && f.Params+1 > f.Regs {
		return false
	}
	if n == 0 && (f.Params > 0 || f.Rest || len(f.Caps) > 0 || f.Arrow) || len(f.Code) == 0 {
		return false
	}
	for _, v := range f.Consts {
		if v.Kind != api.Number && v.Kind != api.Text || v.Kind == api.Text && len(v.Str)%2 == 1 {
			return false
		}
	}
	return true
}

// there says by the document's words whether an instruction of a function is right.
func there(m api.Module, f api.Fn, i api.Ins) bool {
	if i.Op < 0 || i.Op > 70 {
		return false
	}
	below := func(x, n int) bool { return x >= 0 && x < n }
	for n, p := range slots(&i) {
		x, ok := *p, *p == 0
		if n < len(lettersOf(i.Op)) {
			switch lettersOf(i.Op)[n] {
			case 'r':
				ok = below(x, f.Regs)
			case 'k':
				ok = below(x, len(f.Consts))
			case 's':
				ok = below(x, len(f.Consts)) && f.Consts[x].Kind == api.Text
			case 'n':
				ok = below(x, 1<<31)
			case 't':
				ok = below(x, len(f.Code))
			case 'f':
				ok = x > 0 && below(x, len(m.Fns))
			case 'u':
				ok = below(x, len(f.Caps))
			}
		}
		if !ok || wide(i.Op, n) && !below(x+1, f.Regs) || i.Op == api.OpLoad && n == 1 && x > 4 {
			return false
		}
	}
	if i.Op == api.OpClosure {
		for _, c := range m.Fns[i.B].Caps {
			if c.Up && !below(c.N, len(f.Caps)) || !c.Up && !below(c.N, f.Regs) {
				return false
			}
		}
	}
	return true
}

// checked is what the document says that Check answers.
func checked(m api.Module) (int, int, api.Errno) {
	if len(m.Fns) == 0 || len(m.Fns) > 20000 {
		return 0, 0, api.ErrCheck
	}
	for n, f := range m.Fns {
		if !headed(n, f) {
			return n, 0, api.ErrCheck
		}
		for at, i := range f.Code {
			last := i.Op == api.OpJump || i.Op == api.OpReturn || i.Op == api.OpThrow
			if !there(m, f, i) || at == len(f.Code)-1 && !last {
				return n, at, api.ErrCheck
			}
		}
		if !right(f.Tries, len(f.Code), f.Regs) {
			return n, len(f.Code), api.ErrCheck
		}
	}
	return 0, 0, api.OK
}

// reachable is what the document says that Reach answers: gone over again and again, till nothing more is reached.
func reachable(f api.Fn) []bool {
	out := make([]bool, len(f.Code))
	more := len(out) > 0
	reach := func(at int) {
		if at >= 0 && at < len(out) && !out[at] {
			out[at], more = true, true
		}
	}
	reach(0)
	for more {
		more = false
		for at, i := range f.Code {
			if !out[at] {
				continue
			}
			switch i.Op {
			case api.OpJump:
				reach(i.A)
			case api.OpReturn, api.OpThrow:
			case api.OpIf, api.OpNot:
				reach(i.B)
				reach(at + 1)
			case api.OpSame, api.OpNext, api.OpStep:
				reach(i.C)
				reach(at + 1)
			default:
				reach(at + 1)
			}
			for _, t := range f.Tries {
				if t.From <= at && at < t.To {
					reach(t.At)
				}
			}
		}
	}
	return out
}
