// Package eval works out what decisions and expressions come to.
package eval

import (
	"wicket/tree"
	"wicket/value"
)

// sheet is what the items come to, by their numbers.
type sheet []value.Value

// Decision is what a let or a table comes to, where values has what the items
// ahead of it come to, by their numbers.
func Decision(item tree.Item, values []value.Value) value.Value {
	s := sheet(values)
	if item.Kind == tree.Table {
		return s.table(item)
	}
	return s.expr(item.Expr)
}

// Expression is what an expression comes to, where values has what the items
// that it names come to, by their numbers.
func Expression(node *tree.Node, values []value.Value) value.Value {
	return sheet(values).expr(node)
}

func (s sheet) expr(node *tree.Node) value.Value {
	switch node.Kind {
	case tree.Literal:
		return node.Value
	case tree.Name:
		return s[node.Item]
	case tree.If:
		return s.branch(node)
	}
	sides := operands{left: s.expr(node.Parts[0])}
	if len(node.Parts) > 1 {
		sides.right = s.expr(node.Parts[1])
	}
	return sides.operate(node.Kind)
}

// branch is what the branch that counts comes to, or the condition, if this
// tells of none.
func (s sheet) branch(node *tree.Node) value.Value {
	condition := s.expr(node.Parts[0])
	switch condition {
	case value.OfBool(true):
		return s.expr(node.Parts[1])
	case value.OfBool(false):
		return s.expr(node.Parts[2])
	}
	return condition
}
