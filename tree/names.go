package tree

import "slices"

// Names tells whether the item's expression or table names one of the items
// that are sought, by their numbers. A question names none.
func (i Item) Names(sought []bool) bool {
	switch i.Kind {
	case Let:
		return i.Expr.names(sought)
	case Table:
		return slices.ContainsFunc(i.Columns, func(column int) bool { return sought[column] }) ||
			slices.ContainsFunc(i.Rules, func(rule Rule) bool { return rule.Output.names(sought) })
	}
	return false
}

func (n *Node) names(sought []bool) bool {
	if n.Kind == Name {
		return sought[n.Item]
	}
	return slices.ContainsFunc(n.Parts, func(part *Node) bool { return part.names(sought) })
}
