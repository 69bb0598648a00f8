// Package hang tells which questions still matter to an item.
package hang

import (
	"wicket/eval"
	"wicket/tree"
	"wicket/value"
)

// Set is a set of questions, a bit for each number of an item: MaxItems are
// fewer than it has.
type Set uint32

// Has tells whether the question of this number is in the set.
func (s Set) Has(question int) bool { return s>>question&1 != 0 }

// sheet is what the items come to, and what those of them hang on that have
// been gone through, both by their numbers.
type sheet struct {
	values []value.Value
	sets   []Set
}

// Of is what each of the items hangs on, where values has what they come to.
// An item names only items ahead of it: each is gone through once, however
// often it is named.
func Of(items []tree.Item, values []value.Value) []Set {
	s := sheet{values: values}
	for n, item := range items {
		s.sets = append(s.sets, s.item(n, item))
	}
	return s.sets
}

func (s sheet) item(number int, item tree.Item) Set {
	switch item.Kind {
	case tree.Let:
		return s.expr(item.Expr)
	case tree.Table:
		return s.table(item)
	}
	if s.values[number].Kind != value.Nothing {
		return 0
	}
	return 1 << number
}

func (s sheet) expr(node *tree.Node) Set {
	ways := [...]func(sheet, *tree.Node) Set{
		tree.Literal:  sheet.parts,
		tree.Name:     sheet.name,
		tree.If:       sheet.branches,
		tree.Or:       sheet.or,
		tree.And:      sheet.and,
		tree.Not:      sheet.parts,
		tree.Equal:    sheet.parts,
		tree.Less:     sheet.parts,
		tree.Add:      sheet.parts,
		tree.Subtract: sheet.parts,
		tree.Multiply: sheet.parts,
		tree.Divide:   sheet.parts,
	}
	return ways[node.Kind](s, node)
}

func (s sheet) parts(node *tree.Node) Set {
	var all Set
	for _, part := range node.Parts {
		all |= s.expr(part)
	}
	return all
}

func (s sheet) name(node *tree.Node) Set { return s.sets[node.Item] }

func (s sheet) or(node *tree.Node) Set { return s.unless(node, true) }

func (s sheet) and(node *tree.Node) Set { return s.unless(node, false) }

// unless: a side that is enough by itself makes up for the other only if it
// can't become another.
func (s sheet) unless(node *tree.Node, enough bool) Set {
	var all Set
	for _, side := range node.Parts {
		set := s.expr(side)
		if set == 0 && s.comesTo(side) == value.OfBool(enough) {
			return 0
		}
		all |= set
	}
	return all
}

func (s sheet) branches(node *tree.Node) Set {
	condition, then, otherwise := node.Parts[0], node.Parts[1], node.Parts[2]
	if set := s.expr(condition); set != 0 {
		return set | s.expr(then) | s.expr(otherwise)
	}
	switch s.comesTo(condition) {
	case value.OfBool(true):
		return s.expr(then)
	case value.OfBool(false):
		return s.expr(otherwise)
	}
	return 0
}

func (s sheet) comesTo(node *tree.Node) value.Value {
	return eval.Expression(node, s.values)
}
