package eval

import (
	"math"
	"testing"

	"wicket/tree"
	"wicket/value"
)

func ints(numbers ...int64) outputs {
	var all outputs
	for _, number := range numbers {
		all = append(all, value.OfInt(number))
	}
	return all
}

func TestPolicies(t *testing.T) {
	const most, least = math.MaxInt64, math.MinInt64
	lacking := func(last ...value.Value) outputs { return append(ints(4, 6), last...) }
	for _, c := range []struct {
		policy tree.Policy
		of     outputs
		want   value.Value
	}{
		{tree.Unique, nil, nothing}, {tree.Unique, ints(4), value.OfInt(4)}, {tree.Unique, ints(4, 4), wrong}, {tree.Unique, outputs{nothing}, nothing}, {tree.Unique, outputs{wrong}, wrong}, {tree.Unique, outputs{nothing, nothing}, wrong},
		{tree.First, nil, nothing}, {tree.First, ints(4), value.OfInt(4)}, {tree.First, outputs{nothing}, nothing}, {tree.First, outputs{wrong}, wrong}, {tree.First, outputs{word("x")}, word("x")},
		{tree.Count, nil, value.OfInt(0)}, {tree.Count, ints(4, 4, 4), value.OfInt(3)}, {tree.Count, lacking(nothing, wrong, yes), value.OfInt(5)},
		{tree.Sum, nil, value.OfInt(0)}, {tree.Sum, ints(4), value.OfInt(4)}, {tree.Sum, ints(4, 6, -1), value.OfInt(9)}, {tree.Sum, lacking(nothing), value.OfInt(10)}, {tree.Sum, lacking(wrong), wrong}, {tree.Sum, lacking(nothing, wrong), wrong}, {tree.Sum, outputs{wrong, nothing}, wrong}, {tree.Sum, outputs{nothing, nothing}, value.OfInt(0)},
		{tree.Sum, ints(most, 1), wrong}, {tree.Sum, ints(least, -1), wrong}, {tree.Sum, ints(most, 1, -1), value.OfInt(most)}, {tree.Sum, ints(least, -1, 1), value.OfInt(least)}, {tree.Sum, ints(most, most, least, least), value.OfInt(-2)},
		{tree.Sum, ints(most, most, most, most, least, least, least, least), value.OfInt(-4)}, {tree.Sum, ints(most, most, most, most, most, most, most, most), wrong}, {tree.Sum, ints(least, least, least, least, least, least, least, least), wrong},
		{tree.Sum, ints(1<<62, 1<<62, 1<<62, 1<<62), wrong}, {tree.Sum, ints(least, least), wrong}, {tree.Sum, ints(most, least, most, least), value.OfInt(-2)},
		{tree.Least, nil, nothing}, {tree.Least, ints(4), value.OfInt(4)}, {tree.Least, ints(4, -6, 5), value.OfInt(-6)}, {tree.Least, lacking(nothing), value.OfInt(4)}, {tree.Least, lacking(wrong), wrong}, {tree.Least, outputs{wrong, nothing}, wrong}, {tree.Least, outputs{nothing}, nothing}, {tree.Least, ints(0, least, most), value.OfInt(least)}, {tree.Least, outputs{nothing, value.OfInt(3)}, value.OfInt(3)},
		{tree.Most, nil, nothing}, {tree.Most, ints(4), value.OfInt(4)}, {tree.Most, ints(4, -6, 5), value.OfInt(5)}, {tree.Most, lacking(nothing), value.OfInt(6)}, {tree.Most, lacking(wrong), wrong}, {tree.Most, outputs{wrong, nothing}, wrong}, {tree.Most, outputs{nothing}, nothing}, {tree.Most, ints(0, least, most), value.OfInt(most)}, {tree.Most, outputs{nothing, value.OfInt(-3)}, value.OfInt(-3)},
	} {
		if got := c.of.joined(c.policy); got != c.want {
			t.Errorf("P6: policy %d of %v is %s, want %s", c.policy, c.of, got, c.want)
		}
	}
}

func TestStandings(t *testing.T) {
	is := func(n int64) tree.Cell { return tree.Cell{Tests: []tree.Test{{Value: value.OfInt(n)}}} }
	not := func(n int64) tree.Cell { return tree.Cell{Not: true, Tests: is(n).Tests} }
	anything := tree.Cell{}
	// The items come to 5, nothing and wrong.
	s := sheet{value.OfInt(5), nothing, wrong}
	for _, c := range []struct {
		cells [3]tree.Cell
		want  standing
	}{
		{[3]tree.Cell{anything, anything, anything}, matches},
		{[3]tree.Cell{is(5), anything, anything}, matches}, {[3]tree.Cell{not(4), anything, anything}, matches},
		{[3]tree.Cell{is(4), anything, anything}, out}, {[3]tree.Cell{not(5), anything, anything}, out},
		{[3]tree.Cell{anything, is(5), anything}, out}, {[3]tree.Cell{anything, not(5), anything}, out},
		{[3]tree.Cell{anything, anything, is(5)}, broken}, {[3]tree.Cell{anything, anything, not(5)}, broken}, {[3]tree.Cell{is(5), anything, is(5)}, broken},
		{[3]tree.Cell{is(4), anything, is(5)}, out}, {[3]tree.Cell{anything, is(5), is(5)}, out},
	} {
		// Whichever way round the columns stand, the rule stands as it does.
		if got := s.standing(tree.Rule{Cells: c.cells[:]}, []int{0, 1, 2}); got != c.want {
			t.Errorf("P6: %v stands %d, want %d", c.cells, got, c.want)
		}
		turned := []tree.Cell{c.cells[2], c.cells[1], c.cells[0]}
		if got := s.standing(tree.Rule{Cells: turned}, []int{2, 1, 0}); got != c.want {
			t.Errorf("P6: %v stands %d, want %d", turned, got, c.want)
		}
	}
}
