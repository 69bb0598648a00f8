package eval

import (
	"math/big"

	"wicket/tree"
	"wicket/value"
)

// operands are what the sides of an operator come to; `not` has a left one alone.
type operands struct{ left, right value.Value }

func (o operands) operate(operator tree.Kind) value.Value {
	ways := [...]func(operands) value.Value{
		tree.Or:       operands.or,
		tree.And:      operands.and,
		tree.Not:      operands.not,
		tree.Equal:    operands.equal,
		tree.Less:     operands.less,
		tree.Add:      operands.add,
		tree.Subtract: operands.subtract,
		tree.Multiply: operands.multiply,
		tree.Divide:   operands.divide,
	}
	return ways[operator](o)
}

func (o operands) or() value.Value { return o.unless(true) }

func (o operands) and() value.Value { return o.unless(false) }

// unless is a bool that one side is enough for; the other bool needs both.
func (o operands) unless(enough bool) value.Value {
	if o.left == value.OfBool(enough) || o.right == value.OfBool(enough) {
		return value.OfBool(enough)
	}
	if lack, ok := o.lack(); ok {
		return lack
	}
	return value.OfBool(!enough)
}

func (o operands) not() value.Value {
	if o.left.Kind != value.Bool {
		return o.left
	}
	return value.OfBool(!o.left.Truth)
}

func (o operands) equal() value.Value {
	if lack, ok := o.lack(); ok {
		return lack
	}
	return value.OfBool(o.left == o.right)
}

func (o operands) less() value.Value {
	if lack, ok := o.lack(); ok {
		return lack
	}
	return value.OfBool(o.left.Number < o.right.Number)
}

func (o operands) add() value.Value { return o.reckon((*big.Int).Add) }

func (o operands) subtract() value.Value { return o.reckon((*big.Int).Sub) }

func (o operands) multiply() value.Value { return o.reckon((*big.Int).Mul) }

// divide goes towards 0, as Quo does.
func (o operands) divide() value.Value {
	if o.left.Kind == value.Int && o.right == value.OfInt(0) {
		return value.Value{Kind: value.Wrong}
	}
	return o.reckon((*big.Int).Quo)
}

// reckon has room on its way for what no two ints can go beyond.
func (o operands) reckon(way func(z, x, y *big.Int) *big.Int) value.Value {
	if lack, ok := o.lack(); ok {
		return lack
	}
	return ofBig(way(new(big.Int), big.NewInt(o.left.Number), big.NewInt(o.right.Number)))
}

// lack is wrong or nothing, if one of both sides is.
func (o operands) lack() (value.Value, bool) {
	for _, kind := range [...]value.Kind{value.Wrong, value.Nothing} {
		if o.left.Kind == kind || o.right.Kind == kind {
			return value.Value{Kind: kind}, true
		}
	}
	return value.Value{}, false
}

// ofBig is wrong, if there is no room for the number.
func ofBig(number *big.Int) value.Value {
	if !number.IsInt64() {
		return value.Value{Kind: value.Wrong}
	}
	return value.OfInt(number.Int64())
}
