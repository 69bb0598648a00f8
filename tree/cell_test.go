package tree

import (
	"math"
	"testing"

	"wicket/value"
)

func number(n int64) value.Value { return value.Value{Kind: value.Int, Number: n} }

func truth(is bool) value.Value { return value.Value{Kind: value.Bool, Truth: is} }

func word(text string) value.Value { return value.Value{Kind: value.Word, Text: text} }

func TestTests(t *testing.T) {
	for _, c := range []struct {
		test       Test
		right, not []value.Value
	}{
		{Test{Kind: Is, Value: number(5)}, []value.Value{number(5)}, []value.Value{number(4), number(6), number(-5), number(math.MinInt64)}},
		{Test{Kind: Is, Value: number(0)}, []value.Value{number(0)}, []value.Value{number(1), number(-1)}},
		{Test{Kind: Is, Value: truth(true)}, []value.Value{truth(true)}, []value.Value{truth(false)}},
		{Test{Kind: Is, Value: truth(false)}, []value.Value{truth(false)}, []value.Value{truth(true)}},
		{Test{Kind: Is, Value: word("x")}, []value.Value{word("x")}, []value.Value{word("y"), word(""), word("xx")}},
		{Test{Kind: Is, Value: word("")}, []value.Value{word("")}, []value.Value{word(" ")}},
		{Test{Kind: Below, Value: number(5)}, []value.Value{number(4), number(math.MinInt64)}, []value.Value{number(5), number(6), number(math.MaxInt64)}},
		{Test{Kind: Below, Value: number(math.MinInt64)}, nil, []value.Value{number(math.MinInt64), number(math.MaxInt64)}},
		{Test{Kind: Above, Value: number(5)}, []value.Value{number(6), number(math.MaxInt64)}, []value.Value{number(5), number(4), number(math.MinInt64)}},
		{Test{Kind: Above, Value: number(math.MaxInt64)}, nil, []value.Value{number(math.MinInt64), number(math.MaxInt64)}},
		{Test{Kind: Between, Value: number(-2), Upper: number(2)}, []value.Value{number(-2), number(0), number(2)}, []value.Value{number(-3), number(3)}},
		{Test{Kind: Between, Value: number(2), Upper: number(2)}, []value.Value{number(2)}, []value.Value{number(1), number(3)}},
		{Test{Kind: Between, Value: number(2), Upper: number(-2)}, nil, []value.Value{number(-2), number(0), number(2), number(3), number(-3)}},
	} {
		cell, not := Cell{Tests: []Test{c.test}}, Cell{Not: true, Tests: []Test{c.test}}
		for _, v := range c.right {
			if !cell.Right(v) || not.Right(v) {
				t.Errorf("%v is not right at %v", c.test, v)
			}
		}
		for _, v := range c.not {
			if cell.Right(v) || !not.Right(v) {
				t.Errorf("%v is right at %v", c.test, v)
			}
		}
		if cell.Right(value.Value{}) || not.Right(value.Value{}) {
			t.Errorf("%v is right at nothing", c.test)
		}
	}
}

func TestOneTestOfSeveralIsEnough(t *testing.T) {
	tests := []Test{{Kind: Below, Value: number(0)}, {Kind: Is, Value: number(3)}, {Kind: Above, Value: number(5)}}
	for n, want := range map[int64]bool{-1: true, 0: false, 3: true, 4: false, 5: false, 6: true} {
		if got := (Cell{Tests: tests}).Right(number(n)); got != want {
			t.Errorf("right at %d: %v", n, got)
		}
		if got := (Cell{Not: true, Tests: tests}).Right(number(n)); got == want {
			t.Errorf("with not, right at %d: %v", n, got)
		}
	}
}

func TestAnythingIsRightAtNothingToo(t *testing.T) {
	for _, v := range []value.Value{{}, number(0), truth(false), word("")} {
		if !(Cell{}).Right(v) {
			t.Errorf("- is not right at %v", v)
		}
	}
	if !(Cell{}).IsAnything() || (Cell{Tests: []Test{{}}}).IsAnything() {
		t.Error("- is not told from the other cells")
	}
}

func TestPutsOut(t *testing.T) {
	five := []Test{{Kind: Is, Value: number(5)}}
	wrong, nothing := value.Value{Kind: value.Wrong}, value.Value{}
	for _, c := range []struct {
		cell Cell
		at   value.Value
		want bool
	}{
		{Cell{Tests: five}, number(5), false}, {Cell{Tests: five}, number(4), true}, {Cell{Not: true, Tests: five}, number(5), true}, {Cell{Not: true, Tests: five}, number(4), false},
		{Cell{Tests: five}, nothing, true}, {Cell{Not: true, Tests: five}, nothing, true}, {Cell{Tests: five}, wrong, false}, {Cell{Not: true, Tests: five}, wrong, false},
		{Cell{}, number(5), false}, {Cell{}, nothing, false}, {Cell{}, wrong, false},
	} {
		if got := c.cell.PutsOut(c.at); got != c.want {
			t.Errorf("%v puts out at %s: %v", c.cell, c.at, got)
		}
	}
}
