package vm

import (
	"lintel/api"
	"lintel/conv"
)

// instructions says by its number how an instruction is done.
func instructions() [api.MaxOp + 1]func(*frame, api.Ins) {
	do := [api.MaxOp + 1]func(*frame, api.Ins){
		api.OpLoad: (*frame).doLoad, api.OpConst: (*frame).doConst, api.OpMove: (*frame).doMove,
		api.OpThis: (*frame).doThis, api.OpCallee: (*frame).doCallee,
		api.OpGlobal: (*frame).doGlobal, api.OpTry: (*frame).doTry, api.OpAssign: (*frame).doAssign,
		api.OpCell: (*frame).doCell, api.OpPeek: (*frame).doPeek, api.OpPoke: (*frame).doPoke,
		api.OpUp: (*frame).doUp, api.OpUpSet: (*frame).doUpSet,
		api.OpAsk: (*frame).doAsk, api.OpFixed: (*frame).doFixed, api.OpClosure: (*frame).doClosure,
		api.OpJump: (*frame).doJump, api.OpIf: (*frame).doIf, api.OpNot: (*frame).doNot, api.OpSame: (*frame).doSame,
		api.OpObject: (*frame).doObject, api.OpArray: (*frame).doArray, api.OpList: (*frame).doList,
		api.OpPush: (*frame).doPush, api.OpSpread: (*frame).doSpread,
		api.OpPut: (*frame).doPut, api.OpGetter: (*frame).doGetter, api.OpSetter: (*frame).doSetter,
		api.OpGet: (*frame).doGet, api.OpSet: (*frame).doSet, api.OpDelete: (*frame).doDelete, api.OpKey: (*frame).doKey,
		api.OpCall: (*frame).doCall, api.OpNew: (*frame).doNew, api.OpReturn: (*frame).doReturn, api.OpThrow: (*frame).doThrow,
		api.OpKeys: (*frame).doKeys, api.OpNext: (*frame).doNext,
		api.OpIter: (*frame).doIter, api.OpStep: (*frame).doStep, api.OpClose: (*frame).doClose, api.OpQuiet: (*frame).doQuiet,
		api.OpText: (*frame).doText, api.OpDone: (*frame).doDone,
		api.OpPlus: (*frame).doPlus, api.OpMinus: (*frame).doMinus, api.OpFlip: (*frame).doFlip, api.OpBang: (*frame).doBang,
		api.OpType: (*frame).doType,
	}
	for op := api.OpBinary; op <= api.MaxOp; op++ {
		do[op] = (*frame).doBinary
	}
	return do
}

func (f *frame) doLoad(i api.Ins) {
	switch i.B {
	case 0:
		f.regs[i.A] = nil
	case 1:
		f.put(i.A, api.Value{Kind: api.Null})
	case 2, 3:
		f.put(i.A, truth(i.B == 2))
	default:
		f.regs[i.A] = hole{}
	}
}

func (f *frame) doConst(i api.Ins) { f.regs[i.A] = f.values[i.B] }

// doMove moves whatever is there.
func (f *frame) doMove(i api.Ins) { f.regs[i.A] = f.regs[i.B] }

func (f *frame) doThis(i api.Ins) { f.regs[i.A] = f.this }

func (f *frame) doCallee(i api.Ins) { f.regs[i.A] = f.self }

func (f *frame) doGlobal(i api.Ins) {
	g := f.m.globals[f.text(i.B)]
	if g == nil {
		f.m.fail(api.ReferenceError)
	}
	f.put(i.A, g.value)
}

func (f *frame) doTry(i api.Ins) {
	f.regs[i.A] = nil
	if g := f.m.globals[f.text(i.B)]; g != nil {
		f.put(i.A, g.value)
	}
}

func (f *frame) doAssign(i api.Ins) {
	v, g := f.value(i.B), f.m.globals[f.text(i.A)]
	if g == nil {
		f.m.fail(api.ReferenceError)
	}
	f.m.must(!g.fixed)
	g.value = v
}

func (f *frame) doCell(i api.Ins) { f.regs[i.A] = &cell{f.open(i.B)} }

func (f *frame) doPeek(i api.Ins) { f.regs[i.A] = f.cell(i.B).value }

func (f *frame) doPoke(i api.Ins) {
	c := f.cell(i.A)
	c.value = f.wanted(i.B)
}

func (f *frame) doUp(i api.Ins) { f.regs[i.A] = f.caps[i.B].value }

func (f *frame) doUpSet(i api.Ins) { f.caps[i.A].value = f.wanted(i.B) }

func (f *frame) doAsk(i api.Ins) {
	if _, is := f.open(i.A).(hole); is {
		f.m.fail(api.ReferenceError)
	}
}

func (f *frame) doFixed(api.Ins) { f.m.fail(api.TypeError) }

func (f *frame) doClosure(i api.Ins) {
	b := f.fns[i.B]
	x := &function{body: b, caps: make([]*cell, len(b.Caps)), this: f.this}
	for n, c := range b.Caps {
		if c.Up {
			x.caps[n] = f.caps[c.N]
		} else {
			x.caps[n] = f.cell(c.N)
		}
	}
	f.put(i.A, f.m.newClosure(x))
}

func (f *frame) doJump(i api.Ins) { f.at = i.A }

func (f *frame) doIf(i api.Ins) {
	if conv.Truthy(f.value(i.A)) {
		f.at = i.B
	}
}

func (f *frame) doNot(i api.Ins) {
	if !conv.Truthy(f.value(i.A)) {
		f.at = i.B
	}
}

func (f *frame) doSame(i api.Ins) {
	if conv.Same(f.value(i.A), number(float64(i.B)), api.SameStrict) {
		f.at = i.C
	}
}

func (f *frame) doReturn(i api.Ins) { f.m.pop(f.value(i.A)) }

func (f *frame) doThrow(i api.Ins) {
	if v := f.value(i.A); !f.catch(v) {
		f.m.throw(v)
	}
}

func (f *frame) doText(i api.Ins) { f.put(i.A, text(f.m.text(f.value(i.B)))) }

func (f *frame) doDone(i api.Ins) { f.m.value = f.value(i.A) }

func (f *frame) doPlus(i api.Ins) { f.put(i.A, f.m.unary("+", f.value(i.B))) }

func (f *frame) doMinus(i api.Ins) { f.put(i.A, f.m.unary("-", f.value(i.B))) }

func (f *frame) doFlip(i api.Ins) { f.put(i.A, f.m.unary("~", f.value(i.B))) }

func (f *frame) doBang(i api.Ins) { f.put(i.A, truth(!conv.Truthy(f.value(i.B)))) }

func (f *frame) doType(i api.Ins) { f.put(i.A, text(f.m.typeOf(f.value(i.B)))) }

func (f *frame) doBinary(i api.Ins) {
	a, b := f.value(i.B), f.value(i.C)
	f.put(i.A, f.m.binary(f.m.signs[i.Op-api.OpBinary], a, b))
}
