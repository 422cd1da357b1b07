package code

import "lintel/api"

// mostOperands is how many operands an instruction may have.
const mostOperands = 4

// letters says what an instruction's operands are, a letter each. Those behind the first operator between two registers have its letters.
var letters = [api.OpBinary + 1]string{
	api.OpLoad: "rn", api.OpConst: "rk", api.OpMove: "rr", api.OpThis: "r", api.OpCallee: "r",
	api.OpGlobal: "rs", api.OpTry: "rs", api.OpAssign: "sr",
	api.OpCell: "rr", api.OpPeek: "rr", api.OpPoke: "rr", api.OpUp: "ru", api.OpUpSet: "ur",
	api.OpAsk: "rs", api.OpFixed: "s", api.OpClosure: "rf",
	api.OpJump: "t", api.OpIf: "rt", api.OpNot: "rt", api.OpSame: "rnt",
	api.OpObject: "r", api.OpArray: "r", api.OpList: "r", api.OpPush: "rr", api.OpSpread: "rr",
	api.OpPut: "rrr", api.OpGetter: "rrr", api.OpSetter: "rrr", api.OpGet: "rrr", api.OpSet: "rrr", api.OpDelete: "rrr",
	api.OpKey: "rr", api.OpCall: "rrrr", api.OpNew: "rrr", api.OpReturn: "r", api.OpThrow: "r",
	api.OpKeys: "rr", api.OpNext: "rrt", api.OpIter: "rr", api.OpStep: "rrt", api.OpClose: "r", api.OpQuiet: "r",
	api.OpText: "rr", api.OpDone: "r",
	api.OpPlus: "rr", api.OpMinus: "rr", api.OpFlip: "rr", api.OpBang: "rr", api.OpType: "rr",
	api.OpBinary: "rrr",
}

// names are the instructions' names; of an operator between two registers its sign.
var names = [api.MaxOp + 1]string{
	api.OpLoad: "Load", api.OpConst: "Const", api.OpMove: "Move", api.OpThis: "This", api.OpCallee: "Callee",
	api.OpGlobal: "Global", api.OpTry: "Try", api.OpAssign: "Assign",
	api.OpCell: "Cell", api.OpPeek: "Peek", api.OpPoke: "Poke", api.OpUp: "Up", api.OpUpSet: "UpSet",
	api.OpAsk: "Ask", api.OpFixed: "Fixed", api.OpClosure: "Closure",
	api.OpJump: "Jump", api.OpIf: "If", api.OpNot: "Not", api.OpSame: "Same",
	api.OpObject: "Object", api.OpArray: "Array", api.OpList: "List", api.OpPush: "Push", api.OpSpread: "Spread",
	api.OpPut: "Put", api.OpGetter: "Getter", api.OpSetter: "Setter", api.OpGet: "Get", api.OpSet: "Set", api.OpDelete: "Delete",
	api.OpKey: "Key", api.OpCall: "Call", api.OpNew: "New", api.OpReturn: "Return", api.OpThrow: "Throw",
	api.OpKeys: "Keys", api.OpNext: "Next", api.OpIter: "Iter", api.OpStep: "Step", api.OpClose: "Close", api.OpQuiet: "Quiet",
	api.OpText: "Text", api.OpDone: "Done",
	api.OpPlus: "Plus", api.OpMinus: "Minus", api.OpFlip: "Flip", api.OpBang: "Bang", api.OpType: "Type",
	api.OpBinary: "+", "-", "*", "/", "%", "**", "<<", ">>", ">>>", "&", "|", "^",
	"<", ">", "<=", ">=", "==", "!=", "===", "!==", "in", "instanceof",
}

// Operands: P11.1.
func Operands(op int) string {
	if !isOp(op) {
		return ""
	}
	return letters[min(op, api.OpBinary)]
}

// Name: P11.1.
func Name(op int) string {
	if !isOp(op) {
		return ""
	}
	return names[op]
}

func isOp(op int) bool { return 0 <= op && op <= api.MaxOp }

// operands are all that an instruction has room for, whether it has them or not.
func operands(i api.Ins) [mostOperands]int { return [mostOperands]int{i.A, i.B, i.C, i.D} }
