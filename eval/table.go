package eval

import (
	"math/big"
	"slices"

	"wicket/tree"
	"wicket/value"
)

// standing is how a rule stands at what the columns come to.
type standing int

const (
	out standing = iota
	broken
	matches
)

func (s sheet) table(item tree.Item) value.Value {
	var results outputs
	for _, rule := range item.Rules {
		switch s.standing(rule, item.Columns) {
		case out:
			continue
		case broken:
			return value.Value{Kind: value.Wrong}
		}
		results = append(results, s.expr(rule.Output))
		if item.Policy == tree.First {
			break
		}
	}
	return results.joined(item.Policy)
}

// standing: a cell that is not right at its column puts the rule out, even
// where another column is wrong.
func (s sheet) standing(rule tree.Rule, columns []int) standing {
	stands := matches
	for n, cell := range rule.Cells {
		column := s[columns[n]]
		switch {
		case cell.PutsOut(column):
			return out
		case column.Kind == value.Wrong && !cell.IsAnything():
			stands = broken
		}
	}
	return stands
}

// outputs are what the outputs of the rules that match come to; of first, the
// first one's alone.
type outputs []value.Value

func (o outputs) joined(policy tree.Policy) value.Value {
	ways := [...]func(outputs) value.Value{
		tree.Unique: outputs.only,
		tree.First:  outputs.only,
		tree.Sum:    outputs.sum,
		tree.Count:  outputs.count,
		tree.Least:  outputs.least,
		tree.Most:   outputs.most,
	}
	return ways[policy](o)
}

func (o outputs) only() value.Value {
	switch len(o) {
	case 0:
		return value.Value{}
	case 1:
		return o[0]
	}
	return value.Value{Kind: value.Wrong}
}

func (o outputs) count() value.Value { return value.OfInt(int64(len(o))) }

// sum looks for room at its end alone: parts may go beyond the ints.
func (o outputs) sum() value.Value {
	numbers, ok := o.numbers()
	if !ok {
		return value.Value{Kind: value.Wrong}
	}
	total := new(big.Int)
	for _, number := range numbers {
		total.Add(total, big.NewInt(number))
	}
	return ofBig(total)
}

func (o outputs) least() value.Value { return o.extreme(slices.Min[[]int64]) }

func (o outputs) most() value.Value { return o.extreme(slices.Max[[]int64]) }

func (o outputs) extreme(way func([]int64) int64) value.Value {
	numbers, ok := o.numbers()
	switch {
	case !ok:
		return value.Value{Kind: value.Wrong}
	case len(numbers) == 0:
		return value.Value{}
	}
	return value.OfInt(way(numbers))
}

// numbers are the outputs without those that are nothing; false, if one is wrong.
func (o outputs) numbers() ([]int64, bool) {
	var numbers []int64
	for _, output := range o {
		switch output.Kind {
		case value.Wrong:
			return nil, false
		case value.Int:
			numbers = append(numbers, output.Number)
		}
	}
	return numbers, true
}
