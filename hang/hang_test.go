package hang

import (
	"testing"

	"wicket/api"
	"wicket/tree"
	"wicket/value"
)

var (
	nothing = value.Value{}
	wrong   = value.Value{Kind: value.Wrong}
	yes     = value.OfBool(true)
	no      = value.OfBool(false)
)

func name(item int) *tree.Node { return &tree.Node{Kind: tree.Name, Item: item} }

func literal(v value.Value) *tree.Node { return &tree.Node{Kind: tree.Literal, Value: v} }

func join(kind tree.Kind, parts ...*tree.Node) *tree.Node {
	return &tree.Node{Kind: kind, Parts: parts}
}

// open is a sheet of items that hang on themselves, but for the first, which
// hangs on nothing.
func open(values ...value.Value) sheet {
	s := sheet{values: values, sets: make([]Set, len(values))}
	for n := 1; n < len(values); n++ {
		s.sets[n] = 1 << n
	}
	return s
}

func TestHas(t *testing.T) {
	for n := range api.MaxItems {
		one := Set(1) << n
		for m := range api.MaxItems {
			if one.Has(m) != (n == m) || Set(0).Has(m) || (one|1).Has(m) != (n == m || m == 0) {
				t.Errorf("P8: of the question %d alone Has(%d) = %v", n, m, one.Has(m))
			}
		}
	}
}

func TestEachKindOfNode(t *testing.T) {
	for kind := tree.Or; kind <= tree.Divide; kind++ {
		s := open(wrong, nothing, nothing)
		want := Set(0b110)
		parts := []*tree.Node{name(1), name(2)}
		if kind == tree.Not {
			want, parts = 0b10, parts[:1]
		}
		if got := s.expr(join(kind, parts...)); got != want {
			t.Errorf("P8: kind %d hangs on %b, want %b", kind, got, want)
		}
		for n := range parts {
			parts[n] = name(0)
		}
		if got := s.expr(join(kind, parts...)); got != 0 {
			t.Errorf("P8: kind %d of what hangs on nothing hangs on %b", kind, got)
		}
	}
	s := open(no, nothing, nothing)
	for what, c := range map[string]struct {
		node *tree.Node
		want Set
	}{
		"a literal": {literal(yes), 0}, "null": {literal(nothing), 0}, "a name": {name(2), 0b100}, "a name that hangs on nothing": {name(0), 0},
		"no and": {join(tree.And, name(0), name(1)), 0}, "and no": {join(tree.And, name(1), name(0)), 0}, "no or": {join(tree.Or, name(0), name(1)), 0b10}, "or no": {join(tree.Or, name(1), name(0)), 0b10},
		"if no": {join(tree.If, name(0), name(1), name(2)), 0b100}, "if not no": {join(tree.If, join(tree.Not, name(0)), name(1), name(2)), 0b10}, "if null": {join(tree.If, literal(nothing), name(1), name(2)), 0}, "if open": {join(tree.If, name(1), name(0), name(2)), 0b110},
	} {
		if got := s.expr(c.node); got != c.want {
			t.Errorf("P8: %s hangs on %b, want %b", what, got, c.want)
		}
	}
}

// TestOf: items by their numbers, a set for each.
func TestOf(t *testing.T) {
	items := []tree.Item{
		{Kind: tree.Ask},
		{Kind: tree.Ask},
		{Kind: tree.Let, Expr: join(tree.Add, name(0), name(1))},
		{Kind: tree.Ask},
		{Kind: tree.Table, Policy: tree.Sum, Columns: []int{2, 3}, Rules: []tree.Rule{{Cells: []tree.Cell{{Tests: []tree.Test{{Value: value.OfInt(1)}}}, {}}, Output: name(3)}}},
	}
	values := []value.Value{value.OfInt(0), nothing, nothing, nothing, nothing}
	for n, want := range []Set{0, 0b10, 0b10, 0b1000, 0b1010} {
		if got := Of(items, values)[n]; got != want {
			t.Errorf("P8: item %d hangs on %b, want %b", n, got, want)
		}
		if got := Of(items[:n+1], values); len(got) != n+1 || got[n] != want {
			t.Errorf("P8: of the items up to %d: %b", n, got)
		}
	}
	if got := Of(nil, nil); len(got) != 0 {
		t.Errorf("P8: of no items: %b", got)
	}
}

func TestRules(t *testing.T) {
	is := func(n int64) tree.Cell { return tree.Cell{Tests: []tree.Test{{Value: value.OfInt(n)}}} }
	not := func(n int64) tree.Cell { return tree.Cell{Not: true, Tests: is(n).Tests} }
	anything := tree.Cell{}
	// The first three hang on nothing, the others on something.
	s := sheet{
		values: []value.Value{value.OfInt(5), nothing, wrong, value.OfInt(5), nothing, wrong},
		sets:   []Set{0, 0, 0, 1, 2, 4},
	}
	for _, c := range []struct {
		column  int
		cell    tree.Cell
		out     bool
		columns Set
	}{
		{0, is(5), false, 0}, {0, is(4), true, 0}, {0, not(5), true, 0}, {0, anything, false, 0},
		{1, is(5), true, 0}, {1, not(5), true, 0}, {1, anything, false, 0},
		{2, is(5), false, 0}, {2, not(5), false, 0}, {2, anything, false, 0},
		{3, is(5), false, 1}, {3, is(4), false, 1}, {3, not(5), false, 1}, {3, anything, false, 0},
		{4, is(5), false, 2}, {4, not(5), false, 2}, {4, anything, false, 0},
		{5, is(5), false, 4}, {5, anything, false, 0},
	} {
		// Beside cells that are right and hang on nothing.
		for _, place := range []int{0, 1, 2} {
			cells, columns := []tree.Cell{is(5), anything, not(4)}, []int{0, 0, 0}
			cells[place], columns[place] = c.cell, c.column
			rule := tree.Rule{Cells: cells}
			if got := s.outForGood(rule, columns); got != c.out {
				t.Errorf("P8: %v at %v is out for good: %v", cells, columns, got)
			}
			if got := s.columns(rule, columns); got != c.columns {
				t.Errorf("P8: %v at %v hangs on %b, want %b", cells, columns, got, c.columns)
			}
		}
	}
}
