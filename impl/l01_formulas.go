package impl

import "slices"

// Constants of chapter 1.
const (
	MaxForm = 24
	MaxAtom = 8
)

// The operators begin above the atoms, so that every symbol is one number.
const (
	OpTensor = iota + 11
	OpPar
	OpOne
	OpBot
	OpPlus
	OpWith
	OpBang
	OpQuest
)

// noSymbol is what arityOf returns for a number that is no symbol.
const noSymbol = -1

// arities holds the number of operands of each operator; OpOne and OpBot have none.
var arities = [OpQuest + 1]int64{
	OpTensor: 2,
	OpPar:    2,
	OpPlus:   2,
	OpWith:   2,
	OpBang:   1,
	OpQuest:  1,
}

// dualOperators holds the dual of each operator.
var dualOperators = [OpQuest + 1]int64{
	OpTensor: OpPar,
	OpPar:    OpTensor,
	OpOne:    OpBot,
	OpBot:    OpOne,
	OpPlus:   OpWith,
	OpWith:   OpPlus,
	OpBang:   OpQuest,
	OpQuest:  OpBang,
}

// isLeaf reports whether a symbol is an atom or a dual atom.
func isLeaf(symbol int64) bool {
	return symbol != 0 && symbol >= -MaxAtom && symbol <= MaxAtom
}

// isOperator reports whether a symbol is an operator; only then is it an index of the tables.
func isOperator(symbol int64) bool {
	return symbol >= OpTensor && symbol <= OpQuest
}

// arityOf returns the number of operands that follow a symbol, or noSymbol.
func arityOf(symbol int64) int64 {
	if isLeaf(symbol) {
		return 0
	}
	if isOperator(symbol) {
		return arities[symbol]
	}
	return noSymbol
}

// ValidForm reports whether f is a valid formula.
func ValidForm(f []int64) bool {
	return FormEnd(f, 0) == int64(len(f))
}

// FormEnd returns the index after the formula that begins in the list f at the index at. It
// returns -1 if f has more than MaxForm elements, at is not an index of f, or no formula begins
// there.
func FormEnd(f []int64, at int64) int64 {
	if len(f) > MaxForm || at < 0 || at >= int64(len(f)) {
		return -1
	}
	missing := 1
scan:
	for i, symbol := range f[at:] {
		switch arityOf(symbol) {
		case noSymbol:
			break scan
		case 0:
			missing--
			if missing == 0 {
				return at + int64(i) + 1
			}
		case 2:
			missing++
		}
	}
	return -1
}

// DualOf returns the dual of a formula, or nil if f is not valid.
func DualOf(f []int64) []int64 {
	if !ValidForm(f) {
		return nil
	}
	dual := slices.Clone(f)
	dualise(dual)
	return dual
}

// dualise replaces a formula by its dual. It has no limit of symbols, because the texts of
// chapter 2 can be longer than a valid formula.
func dualise(symbols []int64) {
	for i, symbol := range symbols {
		if isLeaf(symbol) {
			symbols[i] = -symbol
		} else {
			symbols[i] = dualOperators[symbol]
		}
	}
}

// OperatorOf returns the first symbol of a formula if it is an operator, and 0 if it is an atom
// or dual atom. It returns -1 if f is not valid.
func OperatorOf(f []int64) int64 {
	if !ValidForm(f) {
		return -1
	}
	if isLeaf(f[0]) {
		return 0
	}
	return f[0]
}

// OperandOf returns the operand with the index k, and true. It returns nil and false if f is not
// valid or has no such operand.
func OperandOf(f []int64, k int64) ([]int64, bool) {
	if !ValidForm(f) || k < 0 || k >= arityOf(f[0]) {
		return nil, false
	}
	start := int64(1)
	for range k {
		start = FormEnd(f, start)
	}
	return slices.Clone(f[start:FormEnd(f, start)]), true
}

// Joined returns the formula with the operator op and the operands a and b, and true. It returns
// nil and false if op is not one of OpTensor, OpPar, OpPlus and OpWith, a or b is not valid, or
// the result has more than MaxForm symbols.
func Joined(op int64, a []int64, b []int64) ([]int64, bool) {
	if arityOf(op) != 2 || !ValidForm(a) || !ValidForm(b) || 1+len(a)+len(b) > MaxForm {
		return nil, false
	}
	return slices.Concat([]int64{op}, a, b), true
}

// Wrapped returns the formula with the operator op and the operand a, and true. It returns nil
// and false if op is neither OpBang nor OpQuest, a is not valid, or the result has more than
// MaxForm symbols.
func Wrapped(op int64, a []int64) ([]int64, bool) {
	if arityOf(op) != 1 || !ValidForm(a) || 1+len(a) > MaxForm {
		return nil, false
	}
	return slices.Concat([]int64{op}, a), true
}

// LeavesOf returns the atoms and dual atoms of a formula, from left to right, or nil if f is not
// valid. The units are not among them.
func LeavesOf(f []int64) []int64 {
	if !ValidForm(f) {
		return nil
	}
	var leaves []int64
	for _, symbol := range f {
		if isLeaf(symbol) {
			leaves = append(leaves, symbol)
		}
	}
	return leaves
}

// DepthOf returns 0 for a formula without operands, and otherwise 1 plus the greatest depth of
// its operands. It returns -1 if f is not valid.
func DepthOf(f []int64) int64 {
	if !ValidForm(f) {
		return -1
	}
	return depthAt(f, 0)
}

// depthAt returns the depth of the formula that begins at the index at of a valid formula.
func depthAt(f []int64, at int64) int64 {
	depth := int64(0)
	operand := at + 1
	for range arityOf(f[at]) {
		depth = max(depth, 1+depthAt(f, operand))
		operand = FormEnd(f, operand)
	}
	return depth
}

// FragmentOf returns the sum of 1 if OpTensor or OpPar occurs in the formula, 2 if OpOne or OpBot
// occurs, 4 if OpPlus or OpWith occurs, and 8 if OpBang or OpQuest occurs. It returns -1 if f is
// not valid.
func FragmentOf(f []int64) int64 {
	if !ValidForm(f) {
		return -1
	}
	fragment := int64(0)
	for _, symbol := range f {
		fragment |= fragmentBit(symbol)
	}
	return fragment
}

// fragmentBit returns what the occurrence of a symbol adds to the fragment of a formula.
func fragmentBit(symbol int64) int64 {
	switch symbol {
	case OpTensor, OpPar:
		return 1
	case OpOne, OpBot:
		return 2
	case OpPlus, OpWith:
		return 4
	case OpBang, OpQuest:
		return 8
	}
	return 0
}
