package hang

import "wicket/tree"

func (s sheet) table(item tree.Item) Set {
	var all Set
	for _, rule := range item.Rules {
		if s.outForGood(rule, item.Columns) {
			continue
		}
		columns := s.columns(rule, item.Columns)
		all |= columns
		if item.Policy != tree.Count {
			all |= s.expr(rule.Output)
		}
		// A settled rule leaves nothing to those behind it.
		if item.Policy == tree.First && columns == 0 {
			break
		}
	}
	return all
}

// outForGood: a rule that is out by a column which still hangs on something
// may come in again.
func (s sheet) outForGood(rule tree.Rule, columns []int) bool {
	for n, cell := range rule.Cells {
		column := columns[n]
		if s.sets[column] == 0 && cell.PutsOut(s.values[column]) {
			return true
		}
	}
	return false
}

// columns is what those columns hang on at which the rule looks.
func (s sheet) columns(rule tree.Rule, columns []int) Set {
	var all Set
	for n, cell := range rule.Cells {
		if !cell.IsAnything() {
			all |= s.sets[columns[n]]
		}
	}
	return all
}
