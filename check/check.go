// Package check looks whether a table has a rule for everything, and no two
// for one thing.
package check

import (
	"math/bits"

	"wicket/api"
	"wicket/tree"
)

// rules is a set of rules: bit n stands for rule n.
type rules uint

func (r rules) none() bool    { return r == 0 }
func (r rules) several() bool { return bits.OnesCount(uint(r)) > 1 }

// firstTwo are the smallest two of a set that has several.
func (r rules) firstTwo() (int, int) {
	behind := r & (r - 1)
	return bits.TrailingZeros(uint(r)), bits.TrailingZeros(uint(behind))
}

// Table is the verdict on a table, whose columns are among the items.
func Table(table tree.Item, items []tree.Item) api.Verdict {
	columns := make([][]answer, len(table.Columns))
	for n, item := range table.Columns {
		if items[item].Kind != tree.Ask {
			return api.Verdict{What: api.Unknown}
		}
		columns[n] = answers(table.Rules, n, items[item].Type)
	}
	all := rules(1)<<len(table.Rules) - 1
	if found, matching, ok := find(columns, all, rules.several); ok {
		one, two := matching.firstTwo()
		return api.Verdict{What: api.Overlap, Answers: found, One: one, Two: two}
	}
	if found, _, ok := find(columns, all, rules.none); ok {
		return api.Verdict{What: api.Gap, Answers: found}
	}
	return api.Verdict{What: api.Sound}
}

// find looks for answers to the columns for which those of the rules still
// left that match are as they are sought, and tells the answers, written, and
// these rules.
func find(columns [][]answer, left rules, sought func(rules) bool) ([]string, rules, bool) {
	if len(columns) == 0 {
		return nil, left, sought(left)
	}
	for _, a := range columns[0] {
		if behind, matching, ok := find(columns[1:], left&a.right, sought); ok {
			return append([]string{a.value.String()}, behind...), matching, true
		}
	}
	return nil, 0, false
}
