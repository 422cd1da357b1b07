package vm_test

import (
	"fmt"
	"testing"

	"lintel/api"
	"lintel/check"
	lcode "lintel/code"
	"lintel/vm"
)

// holdModule runs a module that check must take, and asks how it ends.
func holdModule(t *testing.T, about string, x api.Module, end int, value string) {
	t.Helper()
	if f, at, e := check.Check(x); e != api.OK {
		t.Fatalf("%s: function %d, instruction %d: error %d", about, f, at, e)
	}
	m := machine(t, roomy)
	if o := m.Run(x); o.End != end || o.Value != value {
		t.Errorf("%s: end %d, %s, not %d, %s", about, o.End, o.Value, end, value)
	}
}

// What a test's registers have.
const (
	hasNothing = iota
	hasNumber
	hasCell
	hasList
	hasEnumeration
	hasHole
	hasArray
	hasObject
	hasFunction
	hasIterator // and its next
	_
	hasText
	free // and all behind
)

// ready puts into the registers what the tests want there.
func ready() []api.Ins {
	return []api.Ins{
		ins(api.OpConst, hasNumber, 0), ins(api.OpCell, hasCell, hasNumber), ins(api.OpList, hasList), ins(api.OpKeys, hasEnumeration, hasNothing),
		ins(api.OpLoad, hasHole, 4), ins(api.OpArray, hasArray), ins(api.OpObject, hasObject), ins(api.OpClosure, hasFunction, 1),
		ins(api.OpIter, hasIterator, hasArray), ins(api.OpConst, hasText, 1),
	}
}

// readied is a module that does an instruction behind ready, and answers what a register has then.
func readied(answer int, l ...api.Ins) api.Module {
	f := code([]api.Value{num(7), str("print")}, ready()...)
	f.Code = append(f.Code, l...)
	f.Code = append(f.Code, ins(api.OpDone, answer), ins(api.OpReturn, answer))
	captured := code([]api.Value{num(7), str("print")}, ins(api.OpLoad, 0), ins(api.OpReturn, 0))
	captured.Caps = []api.Capture{{N: hasCell}}
	return script(f, captured)
}

// wants says what an instruction wants of each of its operands: w nothing (it is written), a anything, v a value, o a value or the hole, c a cell, l a
// list, p a list or array, e an enumeration, i an iterator with its next; a blank: it is no register.
func wants(op int) string {
	switch op {
	case api.OpLoad, api.OpConst, api.OpThis, api.OpCallee, api.OpGlobal, api.OpTry, api.OpUp, api.OpClosure, api.OpObject, api.OpArray, api.OpList:
		return "w "
	case api.OpMove:
		return "wa"
	case api.OpAssign, api.OpUpSet:
		return " v"
	case api.OpCell:
		return "wo"
	case api.OpPeek:
		return "wc"
	case api.OpPoke:
		return "cv"
	case api.OpAsk:
		return "o "
	case api.OpFixed, api.OpJump:
		return " "
	case api.OpIf, api.OpNot, api.OpSame, api.OpReturn, api.OpThrow, api.OpClose, api.OpQuiet, api.OpDone:
		return "v  "
	case api.OpPush, api.OpSpread:
		return "pv"
	case api.OpPut, api.OpGetter, api.OpSetter, api.OpSet:
		return "vvv"
	case api.OpCall:
		return "wvvl"
	case api.OpNew:
		return "wvl"
	case api.OpNext:
		return "we "
	case api.OpStep:
		return "wi "
	case api.OpKey, api.OpKeys, api.OpIter, api.OpText, api.OpPlus, api.OpMinus, api.OpFlip, api.OpBang, api.OpType:
		return "wv"
	}
	return "wvv"
}

// fits says for each register of ready whether it is what is wanted.
func fits(want byte) map[int]bool {
	out := make(map[int]bool)
	for r := range free {
		isValue := r != hasCell && r != hasList && r != hasEnumeration && r != hasHole
		switch want {
		case 'a', 'w', ' ':
			out[r] = true
		case 'v':
			out[r] = isValue
		case 'o':
			out[r] = isValue || r == hasHole
		case 'c':
			out[r] = r == hasCell
		case 'l':
			out[r] = r == hasList
		case 'p':
			out[r] = r == hasList || r == hasArray
		case 'e':
			out[r] = r == hasEnumeration
		case 'i':
			out[r] = isValue && r+1 != hasCell && r+1 != hasList && r+1 != hasEnumeration && r+1 != hasHole
		}
	}
	return out
}

// right is a register that is what is wanted.
func right(want byte) int {
	switch want {
	case 'w':
		return free
	case 'c':
		return hasCell
	case 'l':
		return hasList
	case 'p':
		return hasArray
	case 'e':
		return hasEnumeration
	case 'i':
		return hasIterator
	}
	return hasObject
}

// P21.2: of each operand of each instruction: what it is for, and what it is not for.
func TestStuck(t *testing.T) {
	for op := range api.MaxOp + 1 {
		want, letters := wants(op), lcode.Operands(op)
		if op == api.OpUpSet { // the script has no captures
			continue
		}
		for n := range letters {
			if letters[n] != 'r' || want[n] == 'w' {
				continue
			}
			for r, ok := range fits(want[n]) {
				var l []int
				for k := range letters {
					switch letters[k] {
					case 'r':
						l = append(l, right(want[k]))
					case 't':
						l = append(l, len(ready())+1)
					case 's', 'f':
						l = append(l, 1)
					default:
						l = append(l, 0)
					}
				}
				l[n] = r
				x := readied(hasNothing, ins(op, l...))
				if _, _, e := check.Check(x); e != api.OK {
					t.Fatalf("%s: error %d", lcode.Name(op), e)
				}
				if o := machine(t, roomy).Run(x); (o.End == api.EndStuck) == ok || o.End == api.EndStuck && o.Value != "" || o.End > api.EndThrow && o.End != api.EndStuck {
					t.Errorf("%s, operand %d is register %d: end %d, %s", lcode.Name(op), n, r, o.End, o.Value)
				}
			}
		}
	}
}

// P21.2: captures that are no cells, captured cells that get what is no value, and the same within functions.
func TestStuckCaptures(t *testing.T) {
	for r := range free {
		x := readied(hasNothing, ins(api.OpClosure, free, 2))
		f := code([]api.Value{num(7), str("print")}, ins(api.OpLoad, 0), ins(api.OpReturn, 0))
		f.Caps = []api.Capture{{N: hasCell}, {N: r}}
		x.Fns = append(x.Fns, f)
		end, value := api.EndStuck, ""
		if r == hasCell {
			end, value = api.EndNormal, "undefined"
		}
		holdModule(t, fmt.Sprint("capture ", r), x, end, value)

		x = readied(free, ins(api.OpLoad, free), ins(api.OpCall, free, hasFunction, hasNothing, hasList))
		x.Fns[1].Code = append(ready()[:7], ins(api.OpUpSet, 0, r), ins(api.OpUp, 0, 0), ins(api.OpReturn, 0))
		x.Fns[1].Regs = 20
		isValue := r != hasCell && r != hasList && r != hasEnumeration && r != hasHole
		end, value = api.EndStuck, ""
		if isValue {
			end, value = api.EndNormal, "undefined"
		}
		switch r {
		case hasNumber:
			value = "7"
		case hasArray:
			value = "[array 0]"
		case hasObject:
			value = "[object]"
		}
		holdModule(t, fmt.Sprint("UpSet ", r), x, end, value)
	}
	x := readied(hasNothing, ins(api.OpCell, hasCell, hasHole), ins(api.OpClosure, hasFunction, 1), ins(api.OpCall, free, hasFunction, hasNothing, hasList))
	x.Fns[1].Code = []api.Ins{ins(api.OpUp, 0, 0), ins(api.OpReturn, 0)}
	holdModule(t, "the hole is answered", x, api.EndStuck, "")
	x.Fns[1].Code = []api.Ins{ins(api.OpUp, 0, 0), ins(api.OpAsk, 0, 1), ins(api.OpReturn, 0)}
	holdModule(t, "the hole is asked", x, api.EndThrow, "ReferenceError")
}

// P21.2: what each instruction does, as chapter 11 has it.
func TestInstructions(t *testing.T) {
	for _, x := range []struct {
		about  string
		answer int
		code   []api.Ins
		value  string
	}{
		{"nothing put there", 19, nil, "undefined"},
		{"Load", free, []api.Ins{ins(api.OpLoad, free, 1)}, "null"},
		{"Load", free, []api.Ins{ins(api.OpLoad, free, 2)}, "true"},
		{"Load", free, []api.Ins{ins(api.OpLoad, free, 3)}, "false"},
		{"Load", hasText, []api.Ins{ins(api.OpLoad, hasText, 0)}, "undefined"},
		{"Const", free, []api.Ins{ins(api.OpConst, free, 1)}, `"print"`},
		{"Move", free, []api.Ins{ins(api.OpMove, free, hasNumber)}, "7"},
		{"Move of a cell", free, []api.Ins{ins(api.OpMove, free, hasCell), ins(api.OpPoke, free, hasText), ins(api.OpPeek, free, hasCell)}, `"print"`},
		{"Move of a list", free, []api.Ins{ins(api.OpMove, free, hasList), ins(api.OpPush, free, hasNumber), ins(api.OpGlobal, 13, 1), ins(api.OpCall, free, 13, hasNothing, hasList), ins(api.OpType, free, 13)}, `"function"`},
		{"Move of the hole", free, []api.Ins{ins(api.OpMove, free, hasHole), ins(api.OpCell, 13, free), ins(api.OpPeek, 13, 13), ins(api.OpLoad, free, 1)}, "null"},
		{"This", free, []api.Ins{ins(api.OpThis, free)}, "undefined"},
		{"Callee", free, []api.Ins{ins(api.OpCallee, free)}, "undefined"},
		{"Try", free, []api.Ins{ins(api.OpTry, free, 1)}, "[function print]"},
		{"Assign", free, []api.Ins{ins(api.OpAssign, 1, hasNumber), ins(api.OpGlobal, free, 1)}, "7"},
		{"Cell", free, []api.Ins{ins(api.OpCell, hasNumber, hasNumber), ins(api.OpPeek, free, hasNumber)}, "7"},
		{"Ask", hasNumber, []api.Ins{ins(api.OpAsk, hasNumber, 1)}, "7"},
		{"If not", hasNumber, []api.Ins{ins(api.OpIf, hasNothing, 0)}, "7"},
		{"Not", hasNothing, []api.Ins{ins(api.OpNot, hasNothing, len(ready())+2), ins(api.OpMove, hasNothing, hasNumber)}, "undefined"},
		{"Same", hasNothing, []api.Ins{ins(api.OpSame, hasNumber, 7, len(ready())+2), ins(api.OpMove, hasNothing, hasNumber)}, "undefined"},
		{"Same as another number", hasNothing, []api.Ins{ins(api.OpSame, hasNumber, 8, len(ready())+2), ins(api.OpMove, hasNothing, hasNumber)}, "7"},
		{"Same of a text", hasNothing, []api.Ins{ins(api.OpText, 13, hasNumber), ins(api.OpSame, 13, 7, len(ready())+3), ins(api.OpMove, hasNothing, hasNumber)}, "7"},
		{"Push", hasArray, []api.Ins{ins(api.OpPush, hasArray, hasNumber), ins(api.OpPush, hasArray, hasText)}, "[array 2]"},
		{"Spread", hasArray, []api.Ins{ins(api.OpPush, hasArray, hasNumber), ins(api.OpArray, free), ins(api.OpSpread, free, hasText), ins(api.OpSpread, free, hasArray), ins(api.OpMove, hasArray, free)}, "[array 6]"},
		{"Put", free, []api.Ins{ins(api.OpPut, hasObject, hasText, hasNumber), ins(api.OpGet, free, hasObject, hasText)}, "7"},
		{"Put under what is no key", free, []api.Ins{ins(api.OpPut, hasObject, hasNumber, hasNumber), ins(api.OpKey, 13, hasNumber), ins(api.OpGet, free, hasObject, 13)}, "7"},
		{"Put into an array", hasArray, []api.Ins{ins(api.OpPut, hasArray, hasNumber, hasNumber)}, "[array 8]"},
		{"Getter", free, []api.Ins{ins(api.OpGetter, hasObject, hasText, hasFunction), ins(api.OpGet, free, hasObject, hasText)}, "undefined"},
		{"Setter", hasNumber, []api.Ins{ins(api.OpSetter, hasObject, hasText, hasFunction), ins(api.OpSet, hasObject, hasText, hasNumber)}, "7"},
		{"Set", free, []api.Ins{ins(api.OpSet, hasObject, hasText, hasNumber), ins(api.OpGet, free, hasObject, hasText)}, "7"},
		{"Delete", free, []api.Ins{ins(api.OpDelete, free, hasText, hasText)}, "true"},
		{"Key", free, []api.Ins{ins(api.OpKey, free, hasNumber)}, `"7"`},
		{"New", free, []api.Ins{ins(api.OpNew, free, hasFunction, hasList)}, "[object]"},
		{"Next", free, []api.Ins{ins(api.OpKeys, free, hasText), ins(api.OpNext, hasNumber, free, 0), ins(api.OpNext, free, free, 0)}, `"1"`},
		{"Next at the end", hasNumber, []api.Ins{ins(api.OpNext, hasNumber, hasEnumeration, len(ready())+1)}, "7"},
		{"Iter, Step", free, []api.Ins{ins(api.OpIter, 13, hasText), ins(api.OpStep, free, 13, 0), ins(api.OpStep, free, 13, 0)}, `"r"`},
		{"Step at the end", hasNumber, []api.Ins{ins(api.OpStep, hasNumber, hasIterator, len(ready())+1)}, "7"},
		{"Close, Quiet", hasNumber, []api.Ins{ins(api.OpClose, hasIterator), ins(api.OpQuiet, hasIterator), ins(api.OpQuiet, hasNothing)}, "7"},
		{"Text", free, []api.Ins{ins(api.OpText, free, hasNumber)}, `"7"`},
		{"Plus, Minus", free, []api.Ins{ins(api.OpText, free, hasNumber), ins(api.OpMinus, free, free), ins(api.OpPlus, free, free)}, "-7"},
		{"Flip", free, []api.Ins{ins(api.OpFlip, free, hasNumber)}, "-8"},
		{"Bang", free, []api.Ins{ins(api.OpBang, free, hasNothing)}, "true"},
		{"Type", free, []api.Ins{ins(api.OpType, free, hasFunction)}, `"function"`},
		{"into itself", hasNumber, []api.Ins{ins(api.OpBinary, hasNumber, hasNumber, hasNumber)}, "14"},
	} {
		holdModule(t, x.about, readied(x.answer, x.code...), api.EndNormal, x.value)
	}
	for i, sign := range []string{"14", "0", "49", "1", "0", "823543", "896", "0", "0", "7", "7", "0", "false", "false", "true", "true", "true", "false", "true", "false"} {
		holdModule(t, sign, readied(free, ins(api.OpBinary+i, free, hasNumber, hasNumber)), api.EndNormal, sign)
	}
	holdModule(t, "in", readied(free, ins(api.OpBinary+20, free, hasNumber, hasArray)), api.EndNormal, "false")
	holdModule(t, "instanceof", readied(free, ins(api.OpBinary+21, free, hasArray, hasFunction)), api.EndNormal, "false")
}

// P21.2: what instructions throw.
func TestInstructionsThrow(t *testing.T) {
	for _, x := range []struct {
		about string
		i     api.Ins
		value string
	}{
		{"Ask", ins(api.OpAsk, hasHole, 1), "ReferenceError"}, {"Fixed", ins(api.OpFixed, 1), "TypeError"}, {"Throw", ins(api.OpThrow, hasText), `"print"`},
		{"Put", ins(api.OpPut, hasNumber, hasText, hasText), "TypeError"}, {"Put", ins(api.OpPut, hasNothing, hasText, hasText), "TypeError"},
		{"Getter", ins(api.OpGetter, hasText, hasText, hasFunction), "TypeError"}, {"Setter", ins(api.OpSetter, hasNothing, hasText, hasFunction), "TypeError"},
		{"Get", ins(api.OpGet, free, hasNothing, hasText), "TypeError"}, {"Get", ins(api.OpGet, free, hasObject, hasObject), "TypeError"}, {"Set", ins(api.OpSet, hasNumber, hasText, hasText), "TypeError"},
		{"Delete", ins(api.OpDelete, free, hasNothing, hasText), "TypeError"}, {"Key", ins(api.OpKey, free, hasObject), "TypeError"},
		{"Call", ins(api.OpCall, free, hasText, hasNothing, hasList), "TypeError"}, {"New", ins(api.OpNew, free, hasObject, hasList), "TypeError"},
		{"Spread", ins(api.OpSpread, hasArray, hasNumber), "TypeError"}, {"Iter", ins(api.OpIter, free, hasNothing), "TypeError"}, {"Step", ins(api.OpStep, free, hasObject, 0), "TypeError"},
		{"Close", ins(api.OpClose, hasNothing), "TypeError"}, {"Text", ins(api.OpText, free, hasArray), "TypeError"}, {"Plus", ins(api.OpPlus, free, hasObject), "TypeError"},
		{"+", ins(api.OpBinary, free, hasNumber, hasObject), "TypeError"}, {"in", ins(api.OpBinary+20, free, hasText, hasText), "TypeError"}, {"instanceof", ins(api.OpBinary+21, free, hasText, hasText), "TypeError"},
	} {
		holdModule(t, x.about, readied(hasNothing, x.i), api.EndThrow, x.value)
	}
	for op := range map[int]int{api.OpGlobal: 0, api.OpAssign: 0} {
		f := code([]api.Value{str("undefined"), str("nowhere")}, ins(api.OpLoad, 0, 0), ins(op, 1, 1), ins(api.OpReturn, 0))
		holdModule(t, "no global", script(f), api.EndThrow, "ReferenceError")
	}
	f := code([]api.Value{str("undefined")}, ins(api.OpAssign, 0, 0), ins(api.OpReturn, 0))
	holdModule(t, "a global that may not be written", script(f), api.EndThrow, "TypeError")
}

// P21.2: the innermost try about an instruction is where what it throws goes on, in all functions that are under way.
func TestModuleTries(t *testing.T) {
	throwing := []api.Ins{ins(api.OpThrow, 0), ins(api.OpLoad, 0, 1), ins(api.OpThrow, 0), ins(api.OpDone, 1), ins(api.OpReturn, 1), ins(api.OpDone, 2), ins(api.OpReturn, 2)}
	for _, x := range []struct {
		about string
		tries []api.Try
		value string
	}{
		{"no try", nil, "throws undefined"},
		{"about all", []api.Try{{From: 0, To: 7, At: 3, Reg: 1}}, "undefined"},
		{"the inner one", []api.Try{{From: 0, To: 1, At: 5, Reg: 2}, {From: 0, To: 7, At: 3, Reg: 1}}, "undefined"},
		{"behind", []api.Try{{From: 1, To: 7, At: 3, Reg: 1}}, "throws undefined"},
		{"ahead", []api.Try{{From: 0, To: 1, At: 1, Reg: 1}, {From: 1, To: 3, At: 3, Reg: 1}}, "null"},
		{"within a try that goes on there", []api.Try{{From: 0, To: 1, At: 1, Reg: 1}, {From: 0, To: 3, At: 5, Reg: 2}}, "null"},
		{"alike: the earlier", []api.Try{{From: 0, To: 1, At: 3, Reg: 1}, {From: 0, To: 1, At: 1, Reg: 1}}, "undefined"},
		{"right behind one that ended", []api.Try{{From: 0, To: 2, At: 2, Reg: 3}, {From: 0, To: 7, At: 3, Reg: 1}}, "undefined"},
		{"behind what ended", []api.Try{{From: 0, To: 1, At: 1, Reg: 3}, {From: 2, To: 3, At: 3, Reg: 1}, {From: 0, To: 6, At: 5, Reg: 2}}, "null"},
	} {
		f := api.Fn{Regs: 4, Code: throwing, Tries: x.tries}
		o := machine(t, roomy).Run(script(f))
		if got := told(o) + map[bool]string{true: o.Value}[o.End == api.EndNormal]; got != x.value {
			t.Errorf("%s: %s, not %s", x.about, got, x.value)
		}
		again := script(api.Fn{Regs: 4, Code: []api.Ins{ins(api.OpClosure, 0, 1), ins(api.OpList, 1), ins(api.OpCall, 2, 0, 3, 1), ins(api.OpReturn, 0), ins(api.OpDone, 2), ins(api.OpReturn, 0)}, Tries: []api.Try{{From: 2, To: 3, At: 4, Reg: 2}}}, f)
		want := x.value
		if x.value == "throws undefined" {
			want = "undefined"
		}
		if o := machine(t, roomy).Run(again); o.End != api.EndNormal || o.Value != want {
			t.Errorf("%s, called: %d, %s, not %s", x.about, o.End, o.Value, want)
		}
	}
	many := api.Fn{Regs: 2, Code: []api.Ins{ins(api.OpThrow, 0), ins(api.OpDone, 1), ins(api.OpReturn, 1)}}
	for range 50000 {
		many.Tries = append(many.Tries, api.Try{From: 0, To: 1, At: 1, Reg: 1})
	}
	many.Code[1] = ins(api.OpJump, 0)
	m := vm.New(api.Limits{Fuel: 200000, Frames: 1, Cells: 1000}, nil)
	if o := m.Run(script(many)); o.End != api.EndFuel {
		t.Errorf("many tries: end %d", o.End)
	}
}

// P21.2: parameters, rests, this, the function itself.
func TestModuleCalls(t *testing.T) {
	const f, list = 0, 1
	for _, x := range []struct {
		about string
		fn    api.Fn
		args  int
		value string
	}{
		{"a parameter", api.Fn{Params: 1, Regs: 1, Code: []api.Ins{ins(api.OpReturn, 0)}}, 2, "7"},
		{"a parameter without an argument", api.Fn{Params: 3, Regs: 3, Code: []api.Ins{ins(api.OpReturn, 2)}}, 2, "undefined"},
		{"a rest", api.Fn{Params: 1, Rest: true, Regs: 2, Code: []api.Ins{ins(api.OpReturn, 1)}}, 4, "[array 3]"},
		{"a rest of nothing", api.Fn{Params: 2, Rest: true, Regs: 3, Code: []api.Ins{ins(api.OpReturn, 2)}}, 1, "[array 0]"},
		{"no parameter", api.Fn{Regs: 1, Code: []api.Ins{ins(api.OpReturn, 0)}}, 4, "undefined"},
		{"this", api.Fn{Regs: 1, Code: []api.Ins{ins(api.OpThis, 0), ins(api.OpReturn, 0)}}, 0, "[array 0]"},
		{"this of an arrow", api.Fn{Arrow: true, Regs: 1, Code: []api.Ins{ins(api.OpThis, 0), ins(api.OpReturn, 0)}}, 0, "undefined"},
		{"the function itself", api.Fn{Name: utf16("g"), Regs: 1, Code: []api.Ins{ins(api.OpCallee, 0), ins(api.OpReturn, 0)}}, 0, "[function g]"},
	} {
		code := []api.Ins{ins(api.OpClosure, f, 1), ins(api.OpList, list), ins(api.OpConst, 2, 0), ins(api.OpArray, 3)}
		for range x.args {
			code = append(code, ins(api.OpPush, list, 2))
		}
		code = append(code, ins(api.OpCall, 2, f, 3, list), ins(api.OpDone, 2), ins(api.OpReturn, 2))
		holdModule(t, x.about, script(api.Fn{Regs: 4, Consts: []api.Value{num(7)}, Code: code}, x.fn), api.EndNormal, x.value)
	}
}

// P21.2: an odd byte of a function's name does not count.
func TestOddName(t *testing.T) {
	const f, name = 0, 1
	x := script(api.Fn{Regs: 2, Consts: []api.Value{str("name"), str("length")}, Code: []api.Ins{ins(api.OpClosure, f, 1), ins(api.OpConst, name, 0), ins(api.OpGet, f, f, name), ins(api.OpDone, f), ins(api.OpReturn, f)}},
		api.Fn{Name: "\x00a\x00bx", Regs: 1, Code: []api.Ins{ins(api.OpReturn, 0)}})
	holdModule(t, "name", x, api.EndNormal, `"ab"`)
}

// P21.2: a machine may run several modules: globals, heap, host and meters go on.
func TestSeveral(t *testing.T) {
	m := machine(t, roomy)
	if o := m.Source("let n = 0; Error = () => n++; Error.x = [1]; print(input());"); told(o) != "one" {
		t.Error(told(o))
	}
	spent := m.Spent()
	if o := m.Source("Error(); print(Error(), Error.x[0], typeof n, input()); 5;"); told(o) != "one | 1 1 undefined two" || o.Value != "5" || m.Spent() <= spent {
		t.Error(told(o), o.Value)
	}
	if o := m.Source("throw Error();"); told(o) != "one | 1 1 undefined two throws 2" {
		t.Error(told(o))
	}
	if o := m.Source(""); told(o) != "one | 1 1 undefined two" || o.Value != "undefined" {
		t.Error(told(o))
	}
	x := moduleOf(t, "let k = 'mine'; TypeError = () => k + 1;")
	m.Run(x)
	for f := range x.Fns { // the module is the caller's again
		clear(x.Fns[f].Code)
		clear(x.Fns[f].Consts)
		clear(x.Fns[f].Caps)
	}
	if o := m.Source("TypeError();"); o.Value != `"mine1"` {
		t.Error(told(o), o.Value)
	}
}

// P21.2: Source.
func TestSource(t *testing.T) {
	for src, want := range map[string]string{
		"let let;": "syntax 4", "let": "syntax 3", "a\xff": "syntax 1", "let a; let a;": "syntax 11", "return 1;": "syntax 0", "print(1": "syntax 7",
		string(make([]byte, api.MaxSource+1)): "syntax 0", "1": "",
	} {
		if o := machine(t, roomy).Source(src); told(o) != want {
			t.Errorf("%.20q: %s, not %s", src, told(o), want)
		}
	}
	deep := ""
	for range api.MaxNest + 1 {
		deep += "("
	}
	m := machine(t, roomy)
	m.Source("print('before');")
	if o := m.Source(deep); o.End != api.EndDeep || o.Value != "" || told(o) != "before deep" {
		t.Error(told(o))
	}
}

// P1, P21.1, P21.2: outcomes are in memory of their own, and hosts' texts are those that were given.
func TestOutcomeMemory(t *testing.T) {
	texts := []api.Str{utf16("a"), utf16("b") + "x"}
	m := vm.New(roomy, texts)
	texts[0], texts[1] = "", ""
	o := m.Source("print(input()); print(input().length);")
	if told(o) != "a | 1" {
		t.Error(told(o))
	}
	o.Trace[0] = "changed"
	_ = append(o.Trace[:1], "too")
	if o := m.Source(""); told(o) != "a | 1" {
		t.Error(told(o))
	}
}
