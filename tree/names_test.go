package tree

import (
	"testing"

	"wicket/value"
)

func TestNames(t *testing.T) {
	name := func(item int) *Node { return &Node{Kind: Name, Item: item} }
	join := func(parts ...*Node) *Node { return &Node{Kind: Or, Parts: parts} }
	literal := &Node{Kind: Literal, Value: value.OfInt(1)}
	for what, c := range map[string]struct {
		item  Item
		names []int
	}{
		"a question":     {Item{Kind: Ask}, nil},
		"a literal":      {Item{Kind: Let, Expr: literal}, nil},
		"a name":         {Item{Kind: Let, Expr: name(2)}, []int{2}},
		"the first item": {Item{Kind: Let, Expr: name(0)}, []int{0}},
		"within parts":   {Item{Kind: Let, Expr: join(literal, join(name(1), literal), join(join(name(3))))}, []int{1, 3}},
		"a table":        {Item{Kind: Table, Columns: []int{1, 2}, Rules: []Rule{{Output: literal}, {Output: join(literal, name(4))}}}, []int{1, 2, 4}},
		"a count":        {Item{Kind: Table, Policy: Count, Columns: []int{1}, Rules: []Rule{{Output: name(0)}, {Output: literal}}}, []int{0, 1}},
	} {
		if c.item.Names(make([]bool, 5)) {
			t.Errorf("%s names something of nothing", what)
		}
		var want [5]bool
		for _, n := range c.names {
			want[n] = true
		}
		for n := range want {
			var sought [5]bool
			sought[n] = true
			if got := c.item.Names(sought[:]); got != want[n] {
				t.Errorf("%s names the item %d: %v", what, n, got)
			}
		}
	}
}
