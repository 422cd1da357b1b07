package tree

import (
	"strings"

	"lintel/api"
)

// kinds is a set of kinds of nodes, a bit for each.
type kinds uint64

func (s kinds) has(kind int) bool { return s>>kind&1 == 1 }

// The document's words for kinds that may stand in one place.
const (
	expressions = (1<<(api.NodeObject+1) - 1<<api.NodeNum) | (1<<(api.NodeTemplate+1) - 1<<api.NodeFunc)
	statements  = bodies | 1<<api.NodeLet | 1<<api.NodeConst | 1<<api.NodeFun
	// A NodeLabel is one: what its own body isn't, its own row refuses.
	bodies     = 1<<api.NodeBlock | 1<<api.NodeEmpty | (1<<(api.NodeThrow+1) - 1<<api.NodeExpr) | 1<<api.NodeTry | 1<<api.NodeSwitch | 1<<api.NodeLabel
	keys       = 1<<api.NodeStr | 1<<api.NodeNum | 1<<api.NodeComputed
	targets    = 1<<api.NodeName | 1<<api.NodeDot | 1<<api.NodeIndex
	arguments  = expressions | 1<<api.NodeSpread
	properties = 1<<api.NodeProp | 1<<api.NodeGetter | 1<<api.NodeSetter
	declared   = 1<<api.NodeLet | 1<<api.NodeConst
	clauses    = 1<<api.NodeCase | 1<<api.NodeDefault
	block      = 1 << api.NodeBlock
	none       = 1 << api.NodeNone
)

// texts is what a kind's Text may be.
type texts int

const (
	noText texts = iota
	aName
	nameOrNone
	nameOrWord
	operator
)

// row is a row of the document's table: what a kind may have. What no row can say, fine asks.
type row struct {
	text    texts
	must    []kinds // of the kids that there must be, one by one
	perhaps kinds   // of one kid behind those, which may be absent
	more    kinds   // of all kids behind those
}

// place is what the kid i may be.
func (r row) place(i int) kinds {
	switch {
	case i < len(r.must):
		return r.must[i]
	case i == len(r.must) && r.perhaps != 0:
		return r.perhaps
	}
	return r.more
}

// rows is the table, by kinds; a kind that it does not name has neither a Text nor kids.
func rows() [api.NodeComputed + 1]row {
	one, two := []kinds{expressions}, []kinds{expressions, expressions}
	function := []kinds{1 << api.NodeParams, block}
	each := []kinds{declared | 1<<api.NodeName, expressions, bodies}
	return [...]row{
		api.NodeName:     {text: aName},
		api.NodeArray:    {more: arguments},
		api.NodeObject:   {more: properties},
		api.NodeProp:     {must: []kinds{keys, expressions}},
		api.NodeGetter:   {must: []kinds{keys, 1 << api.NodeFunc}},
		api.NodeSetter:   {must: []kinds{keys, 1 << api.NodeFunc}},
		api.NodeFunc:     {text: nameOrNone, must: function},
		api.NodeArrow:    {must: []kinds{1 << api.NodeParams, expressions | block}},
		api.NodeCall:     {must: one, more: arguments},
		api.NodeNew:      {must: one, more: arguments},
		api.NodeDot:      {text: nameOrWord, must: one},
		api.NodeIndex:    {must: two},
		api.NodeUnary:    {text: operator, must: one},
		api.NodePre:      {text: operator, must: []kinds{targets}},
		api.NodePost:     {text: operator, must: []kinds{targets}},
		api.NodeBinary:   {text: operator, must: two},
		api.NodeAnd:      {must: two},
		api.NodeOr:       {must: two},
		api.NodeCond:     {must: []kinds{expressions, expressions, expressions}},
		api.NodeAssign:   {text: operator, must: []kinds{targets, expressions}},
		api.NodeSeq:      {must: two, more: expressions},
		api.NodeTemplate: {must: []kinds{1 << api.NodeStr}, more: expressions},
		api.NodeSpread:   {must: one},
		api.NodeParams:   {more: 1<<api.NodeName | 1<<api.NodeRest},
		api.NodeRest:     {text: aName},
		api.NodeBlock:    {more: statements},
		api.NodeLet:      {must: []kinds{1 << api.NodeInit}, more: 1 << api.NodeInit},
		api.NodeConst:    {must: []kinds{1 << api.NodeInit}, more: 1 << api.NodeInit},
		api.NodeInit:     {text: aName, perhaps: expressions},
		api.NodeExpr:     {must: one},
		api.NodeIf:       {must: []kinds{expressions, bodies}, perhaps: bodies},
		api.NodeFor:      {must: []kinds{declared | expressions | none, expressions | none, expressions | none, bodies}},
		api.NodeForIn:    {must: each},
		api.NodeForOf:    {must: each},
		api.NodeWhile:    {must: []kinds{expressions, bodies}},
		api.NodeDo:       {must: []kinds{bodies, expressions}},
		api.NodeBreak:    {text: nameOrNone},
		api.NodeContinue: {text: nameOrNone},
		api.NodeReturn:   {perhaps: expressions},
		api.NodeThrow:    {must: one},
		api.NodeTry:      {text: nameOrNone, must: []kinds{block, block | none, block | none}},
		api.NodeSwitch:   {must: one, more: clauses},
		api.NodeCase:     {must: one, more: statements},
		api.NodeDefault:  {more: statements},
		api.NodeLabel:    {text: aName, must: []kinds{bodies}},
		api.NodeFun:      {text: aName, must: function},
		api.NodeScript:   {more: statements},
		api.NodeComputed: {must: one},
	}
}

// Operators: P6.6.
func Operators(kind int) []string {
	// The texts of an answer lie in memory of their own.
	return strings.Fields(strings.Clone(operators(kind)))
}

// operators is a kind's operators with blanks between.
func operators(kind int) string {
	switch kind {
	case api.NodeUnary:
		return "! ~ + - typeof void delete"
	case api.NodePre, api.NodePost:
		return "++ --"
	case api.NodeBinary:
		return "+ - * / % ** << >> >>> & | ^ < > <= >= == != === !== in instanceof"
	case api.NodeAssign:
		return "= += -= *= /= %= **= <<= >>= >>>= &= |= ^="
	}
	return ""
}
