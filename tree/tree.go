// Package tree has the items of a model, as they were read.
package tree

import (
	"wicket/token"
	"wicket/value"
)

// Kind is what a node of an expression is.
type Kind int

const (
	Literal Kind = iota
	Name
	If
	Or
	And
	Not
	Equal
	Less
	Add
	Subtract
	Multiply
	Divide
)

// Node is an expression. Brackets are in its shape alone.
type Node struct {
	Kind  Kind
	Value value.Value // of a literal
	Item  int         // of a name: the number of its item
	Parts []*Node     // of all else, from left to right
}

// TestKind is how a test holds a value against its own.
type TestKind int

const (
	Is TestKind = iota
	Below
	Above
	Between
)

// Test is one test of a cell.
type Test struct {
	Kind  TestKind
	Value value.Value // of Between the lower end
	Upper value.Value // of Between alone
}

// Cell is a cell of a rule; without tests it is the one for anything.
type Cell struct {
	Not   bool
	Tests []Test
}

// Rule is a rule of a table: a cell for each column, and its output.
type Rule struct {
	Cells  []Cell
	Output *Node
}

// Policy is how a table's rules go together.
type Policy int

const (
	Unique Policy = iota
	First
	Sum
	Count
	Least
	Most
)

// ItemKind is what an item is.
type ItemKind int

const (
	Ask ItemKind = iota
	Let
	Table
)

// Item is a question or a decision.
type Item struct {
	Kind    ItemKind
	Name    string
	Type    value.Type
	Expr    *Node  // of a let
	Policy  Policy // of a table, and so are the next two
	Columns []int  // the numbers of the items
	Rules   []Rule
	Tokens  []token.Token // all that it is written with
}

// Place is where the item begins.
func (i Item) Place() int { return i.Tokens[0].Place }
