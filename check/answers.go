package check

import (
	"math"
	"slices"

	"wicket/tree"
	"wicket/value"
)

// answer is an answer to a column, with the rules whose cell there is right.
type answer struct {
	value value.Value
	right rules
}

// answers are answers to a column such that at every other answer the same
// cells are right as at one of these.
func answers(table []tree.Rule, column int, of value.Type) []answer {
	var all []answer
	for _, v := range samples(table, column, of) {
		all = append(all, answer{v, rightAt(table, column, v)})
	}
	return all
}

func rightAt(table []tree.Rule, column int, v value.Value) rules {
	var right rules
	for n, rule := range table {
		if rule.Cells[column].Right(v) {
			right |= 1 << n
		}
	}
	return right
}

// samples are all values of a type, but of the ints the first of each stretch
// on which no test of the column changes.
func samples(table []tree.Rule, column int, of value.Type) []value.Value {
	var values []value.Value
	switch of.Kind {
	case value.Bool:
		values = []value.Value{{Kind: value.Bool}, {Kind: value.Bool, Truth: true}}
	case value.Word:
		for _, word := range of.Words[:of.Count] {
			values = append(values, value.Value{Kind: value.Word, Text: word})
		}
	case value.Int:
		for _, number := range stretches(table, column) {
			values = append(values, value.Value{Kind: value.Int, Number: number})
		}
	}
	return values
}

// stretches are the ints at which a stretch begins, from the least on.
func stretches(table []tree.Rule, column int) []int64 {
	starts := []int64{math.MinInt64}
	for _, rule := range table {
		for _, test := range rule.Cells[column].Tests {
			starts = append(starts, changes(test)...)
		}
	}
	slices.Sort(starts)
	return slices.Compact(starts)
}

// changes are the ints at which a test may be right and just ahead not, or
// the other way round. Behind the greatest int this goes round to the least,
// where a stretch begins anyhow.
func changes(test tree.Test) []int64 {
	lower, upper := test.Value.Number, test.Upper.Number
	switch test.Kind {
	case tree.Below:
		return []int64{lower}
	case tree.Above:
		return []int64{lower + 1}
	case tree.Between:
		return []int64{lower, upper + 1}
	}
	return []int64{lower, lower + 1}
}
