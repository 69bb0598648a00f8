package tree

import (
	"slices"

	"wicket/value"
)

// IsAnything tells whether the cell is the one for anything.
func (c Cell) IsAnything() bool { return len(c.Tests) == 0 }

// Right tells whether the cell is right at what its column comes to. Nothing
// is not right even where `not` is ahead of the tests.
func (c Cell) Right(v value.Value) bool {
	if c.IsAnything() {
		return true
	}
	if v.Kind == value.Nothing {
		return false
	}
	one := slices.ContainsFunc(c.Tests, func(t Test) bool { return t.right(v) })
	return one != c.Not
}

// PutsOut tells whether the cell puts its rule out at what its column comes to.
// Wrong puts no rule out: whether the cell is right can't be told.
func (c Cell) PutsOut(v value.Value) bool { return v.Kind != value.Wrong && !c.Right(v) }

func (t Test) right(v value.Value) bool {
	ways := [...]func(Test, value.Value) bool{
		Is:      Test.is,
		Below:   Test.below,
		Above:   Test.above,
		Between: Test.between,
	}
	return ways[t.Kind](t, v)
}

func (t Test) is(v value.Value) bool { return v == t.Value }

func (t Test) below(v value.Value) bool { return v.Number < t.Value.Number }

func (t Test) above(v value.Value) bool { return v.Number > t.Value.Number }

func (t Test) between(v value.Value) bool {
	return t.Value.Number <= v.Number && v.Number <= t.Upper.Number
}
