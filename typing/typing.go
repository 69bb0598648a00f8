// Package typing looks whether the types in a model are as they must be.
package typing

import (
	"wicket/tree"
	"wicket/value"
)

// signature is what an operator takes on each side, and what it is.
type signature struct{ takes, is value.Kind }

// signatures has the operators whose sides do not hang on one another.
var signatures = [...]signature{
	tree.Or:       {value.Bool, value.Bool},
	tree.And:      {value.Bool, value.Bool},
	tree.Not:      {value.Bool, value.Bool},
	tree.Less:     {value.Int, value.Bool},
	tree.Add:      {value.Int, value.Int},
	tree.Subtract: {value.Int, value.Int},
	tree.Multiply: {value.Int, value.Int},
	tree.Divide:   {value.Int, value.Int},
}

// checker knows the items, since an expression names them by their numbers.
type checker struct{ items []tree.Item }

// FirstFault is the number of the first item in which a type is not as it
// must be, or -1, if there is none.
func FirstFault(items []tree.Item) int {
	c := checker{items}
	for n, item := range items {
		if !c.itemFits(item) {
			return n
		}
	}
	return -1
}

func (c checker) itemFits(item tree.Item) bool {
	switch item.Kind {
	case tree.Let:
		return c.fits(item.Expr, item.Type)
	case tree.Table:
		return c.tableFits(item)
	}
	return true
}

func (c checker) tableFits(item tree.Item) bool {
	if needsInt(item.Policy) && item.Type.Kind != value.Int {
		return false
	}
	for _, rule := range item.Rules {
		if !c.cellsFit(rule.Cells, item.Columns) || !c.outputFits(rule.Output, item) {
			return false
		}
	}
	return true
}

func needsInt(policy tree.Policy) bool {
	return policy != tree.Unique && policy != tree.First
}

func (c checker) cellsFit(cells []tree.Cell, columns []int) bool {
	for n, cell := range cells {
		for _, test := range cell.Tests {
			if !testFits(test, c.items[columns[n]].Type) {
				return false
			}
		}
	}
	return true
}

func testFits(test tree.Test, column value.Type) bool {
	if test.Kind != tree.Is && column.Kind != value.Int {
		return false
	}
	// What is no Between has no upper end, and nothing is held by every type.
	return column.Holds(test.Value) && column.Holds(test.Upper)
}

// outputFits: of a count the outputs are not told, so that each may have a
// type of its own, but it must have one.
func (c checker) outputFits(output *tree.Node, item tree.Item) bool {
	if item.Policy != tree.Count {
		return c.fits(output, item.Type)
	}
	own := c.own(output)
	return own.Kind != value.Nothing && c.fits(output, own)
}

// own is the type that an expression has by itself; of the kind Nothing, if
// it has none.
func (c checker) own(node *tree.Node) value.Type {
	switch node.Kind {
	case tree.Literal:
		return ownOfLiteral(node.Value)
	case tree.Name:
		return c.items[node.Item].Type
	case tree.If:
		return c.firstOwn(node.Parts[1:])
	case tree.Equal:
		return value.Type{Kind: value.Bool}
	}
	return value.Type{Kind: signatures[node.Kind].is}
}

func ownOfLiteral(v value.Value) value.Type {
	if v.Kind == value.Word {
		return value.Type{}
	}
	return value.Type{Kind: v.Kind}
}

// firstOwn is the type of the first of the nodes that has one by itself.
func (c checker) firstOwn(nodes []*tree.Node) value.Type {
	for _, node := range nodes {
		if own := c.own(node); own.Kind != value.Nothing {
			return own
		}
	}
	return value.Type{}
}

// fits tells whether an expression, and all within it, can be of the type
// that is needed of it.
func (c checker) fits(node *tree.Node, need value.Type) bool {
	switch node.Kind {
	case tree.Literal:
		return need.Holds(node.Value)
	case tree.Name:
		return c.items[node.Item].Type == need
	case tree.If:
		return c.fits(node.Parts[0], value.Type{Kind: value.Bool}) && c.allFit(node.Parts[1:], need)
	case tree.Equal:
		sides := c.firstOwn(node.Parts)
		return need.Kind == value.Bool && sides.Kind != value.Nothing && c.allFit(node.Parts, sides)
	}
	operator := signatures[node.Kind]
	return need.Kind == operator.is && c.allFit(node.Parts, value.Type{Kind: operator.takes})
}

func (c checker) allFit(nodes []*tree.Node, need value.Type) bool {
	for _, node := range nodes {
		if !c.fits(node, need) {
			return false
		}
	}
	return true
}
