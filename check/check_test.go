package check

import (
	"math"
	"slices"
	"testing"

	"wicket/tree"
	"wicket/value"
)

func number(n int64) value.Value { return value.Value{Kind: value.Int, Number: n} }

func TestStretches(t *testing.T) {
	const least, most = math.MinInt64, math.MaxInt64
	for _, c := range []struct {
		tests []tree.Test
		want  []int64
	}{
		{nil, []int64{least}},
		{[]tree.Test{{Kind: tree.Is, Value: number(5)}}, []int64{least, 5, 6}},
		{[]tree.Test{{Kind: tree.Below, Value: number(5)}}, []int64{least, 5}},
		{[]tree.Test{{Kind: tree.Above, Value: number(5)}}, []int64{least, 6}},
		{[]tree.Test{{Kind: tree.Between, Value: number(5), Upper: number(9)}}, []int64{least, 5, 10}},
		{[]tree.Test{{Kind: tree.Is, Value: number(most)}}, []int64{least, most}},
		{[]tree.Test{{Kind: tree.Is, Value: number(least)}}, []int64{least, least + 1}},
		{[]tree.Test{{Kind: tree.Below, Value: number(least)}, {Kind: tree.Above, Value: number(most)}}, []int64{least}},
		{[]tree.Test{{Kind: tree.Between, Value: number(least), Upper: number(most)}}, []int64{least}},
		{[]tree.Test{{Kind: tree.Above, Value: number(5)}, {Kind: tree.Below, Value: number(5)}, {Kind: tree.Is, Value: number(5)}}, []int64{least, 5, 6}},
	} {
		if got := stretches([]tree.Rule{{Cells: []tree.Cell{{}, {Tests: c.tests}}}}, 1); !slices.Equal(got, c.want) {
			t.Errorf("the stretches of %v begin at %v, want %v", c.tests, got, c.want)
		}
	}
}

func TestFirstTwo(t *testing.T) {
	for set, want := range map[rules][2]int{0b11: {0, 1}, 0b11111111: {0, 1}, 0b10000001: {0, 7}, 0b11000000: {6, 7}, 0b10110100: {2, 4}} {
		if one, two := set.firstTwo(); one != want[0] || two != want[1] || !set.several() || set.none() {
			t.Errorf("the first two of %b are %d and %d", set, one, two)
		}
	}
	for _, set := range []rules{0, 1, 0b10000000} {
		if set.several() || set.none() != (set == 0) {
			t.Errorf("%b has several", set)
		}
	}
}

func TestSamplesAreAllOfASmallType(t *testing.T) {
	table := []tree.Rule{{Cells: []tree.Cell{{}}}}
	bools := []value.Value{{Kind: value.Bool}, {Kind: value.Bool, Truth: true}}
	if got := samples(table, 0, value.Type{Kind: value.Bool}); !slices.Equal(got, bools) {
		t.Errorf("the bools are %v", got)
	}
	words := []value.Value{{Kind: value.Word, Text: "x"}, {Kind: value.Word, Text: ""}}
	if got := samples(table, 0, value.Type{Kind: value.Word}.With("x").With("")); !slices.Equal(got, words) {
		t.Errorf("the words are %v", got)
	}
}
