package eval

import (
	"math"
	"math/bits"
	"math/rand"
	"testing"

	"wicket/tree"
	"wicket/value"
)

var (
	nothing = value.Value{}
	wrong   = value.Value{Kind: value.Wrong}
	yes     = value.OfBool(true)
	no      = value.OfBool(false)
)

func word(text string) value.Value { return value.Value{Kind: value.Word, Text: text} }

func operated(t *testing.T, left value.Value, operator tree.Kind, right, want value.Value) {
	t.Helper()
	if got := (operands{left, right}).operate(operator); got != want {
		t.Errorf("P6: operator %d of %s and %s is %s, want %s", operator, left, right, got, want)
	}
}

func TestNumbers(t *testing.T) {
	for _, c := range []struct {
		left     int64
		operator tree.Kind
		right    int64
		want     int64
	}{
		{6, tree.Add, 4, 10}, {6, tree.Subtract, 4, 2}, {4, tree.Subtract, 6, -2}, {6, tree.Multiply, 4, 24}, {-6, tree.Multiply, 4, -24}, {0, tree.Multiply, math.MinInt64, 0},
		{6, tree.Divide, 4, 1}, {-6, tree.Divide, 4, -1}, {6, tree.Divide, -4, -1}, {-6, tree.Divide, -4, 1}, {3, tree.Divide, 4, 0}, {-3, tree.Divide, 4, 0}, {0, tree.Divide, 4, 0},
		{math.MaxInt64, tree.Add, math.MinInt64, -1}, {math.MaxInt64 - 1, tree.Add, 1, math.MaxInt64}, {math.MinInt64 + 1, tree.Add, -1, math.MinInt64},
		{math.MinInt64 + 1, tree.Subtract, 1, math.MinInt64}, {math.MinInt64, tree.Subtract, math.MinInt64, 0}, {-1, tree.Subtract, math.MinInt64, math.MaxInt64}, {0, tree.Subtract, math.MaxInt64, math.MinInt64 + 1},
		{math.MaxInt64, tree.Multiply, -1, math.MinInt64 + 1}, {1 << 32, tree.Multiply, -1 << 31, math.MinInt64}, {math.MinInt64, tree.Multiply, 1, math.MinInt64},
		{math.MinInt64, tree.Divide, 1, math.MinInt64}, {math.MaxInt64, tree.Divide, -1, math.MinInt64 + 1}, {math.MinInt64, tree.Divide, math.MinInt64, 1}, {math.MaxInt64, tree.Divide, math.MinInt64, 0},
	} {
		operated(t, value.OfInt(c.left), c.operator, value.OfInt(c.right), value.OfInt(c.want))
	}
}

func TestNoRoom(t *testing.T) {
	for _, c := range []struct {
		left     int64
		operator tree.Kind
		right    int64
	}{
		{math.MaxInt64, tree.Add, 1}, {1, tree.Add, math.MaxInt64}, {math.MinInt64, tree.Add, -1}, {math.MinInt64, tree.Add, math.MinInt64}, {math.MaxInt64, tree.Add, math.MaxInt64},
		{math.MinInt64, tree.Subtract, 1}, {0, tree.Subtract, math.MinInt64}, {math.MaxInt64, tree.Subtract, -1}, {math.MaxInt64, tree.Subtract, math.MinInt64}, {math.MinInt64, tree.Subtract, math.MaxInt64},
		{math.MinInt64, tree.Multiply, -1}, {-1, tree.Multiply, math.MinInt64}, {1 << 32, tree.Multiply, 1 << 31}, {1 << 32, tree.Multiply, 1 << 32}, {3037000500, tree.Multiply, 3037000500}, {math.MinInt64, tree.Multiply, math.MinInt64},
		{math.MinInt64, tree.Divide, -1}, {1, tree.Divide, 0}, {0, tree.Divide, 0}, {math.MinInt64, tree.Divide, 0},
	} {
		operated(t, value.OfInt(c.left), c.operator, value.OfInt(c.right), wrong)
	}
}

// TestReckoned holds the four against ints that go round at their ends.
func TestReckoned(t *testing.T) {
	random := rand.New(rand.NewSource(7))
	number := func() int64 {
		n := int64(random.Uint64()) >> random.Intn(64)
		return n + []int64{0, math.MinInt64, math.MaxInt64}[random.Intn(3)]
	}
	told := func(n int64, room bool) value.Value {
		if !room {
			return wrong
		}
		return value.OfInt(n)
	}
	for range 100000 {
		a, b := number(), number()
		left, right := value.OfInt(a), value.OfInt(b)
		operated(t, left, tree.Add, right, told(a+b, (a+b < a) == (b < 0)))
		operated(t, left, tree.Subtract, right, told(a-b, (a-b > a) == (b < 0)))
		operated(t, left, tree.Multiply, right, told(a*b, productHasRoom(a, b)))
		if b != 0 {
			operated(t, left, tree.Divide, right, told(a/b, a != math.MinInt64 || b != -1))
		}
		operated(t, left, tree.Less, right, value.OfBool(a < b))
		operated(t, left, tree.Equal, right, value.OfBool(a == b))
	}
}

func productHasRoom(a, b int64) bool {
	size := func(n int64) uint64 {
		if n < 0 {
			return -uint64(n)
		}
		return uint64(n)
	}
	high, low := bits.Mul64(size(a), size(b))
	most := uint64(math.MaxInt64)
	if (a < 0) != (b < 0) {
		most++
	}
	return high == 0 && low <= most
}

func TestWhatIsCompared(t *testing.T) {
	for _, c := range []struct {
		left     value.Value
		operator tree.Kind
		right    value.Value
		want     value.Value
	}{
		{value.OfInt(1), tree.Equal, value.OfInt(1), yes}, {value.OfInt(1), tree.Equal, value.OfInt(-1), no}, {yes, tree.Equal, yes, yes}, {no, tree.Equal, no, yes}, {yes, tree.Equal, no, no}, {no, tree.Equal, yes, no},
		{word("x"), tree.Equal, word("x"), yes}, {word("x"), tree.Equal, word("y"), no}, {word(""), tree.Equal, word(""), yes}, {word(""), tree.Equal, word(" "), no},
		{value.OfInt(1), tree.Less, value.OfInt(2), yes}, {value.OfInt(2), tree.Less, value.OfInt(2), no}, {value.OfInt(3), tree.Less, value.OfInt(2), no},
		{value.OfInt(math.MinInt64), tree.Less, value.OfInt(math.MaxInt64), yes}, {value.OfInt(math.MaxInt64), tree.Less, value.OfInt(math.MinInt64), no},
	} {
		operated(t, c.left, c.operator, c.right, c.want)
	}
}

// TestLacks: of what needs both sides, wrong goes ahead of nothing.
func TestLacks(t *testing.T) {
	for _, operator := range []tree.Kind{tree.Equal, tree.Less, tree.Add, tree.Subtract, tree.Multiply, tree.Divide} {
		for _, number := range []value.Value{value.OfInt(3), value.OfInt(0), value.OfInt(-1), value.OfInt(math.MinInt64)} {
			operated(t, number, operator, nothing, nothing)
			operated(t, nothing, operator, number, nothing)
			operated(t, number, operator, wrong, wrong)
			operated(t, wrong, operator, number, wrong)
		}
		operated(t, nothing, operator, nothing, nothing)
		operated(t, nothing, operator, wrong, wrong)
		operated(t, wrong, operator, nothing, wrong)
		operated(t, wrong, operator, wrong, wrong)
	}
	for _, other := range []value.Value{yes, no, word("x"), word("")} {
		operated(t, other, tree.Equal, nothing, nothing)
		operated(t, nothing, tree.Equal, other, nothing)
		operated(t, other, tree.Equal, wrong, wrong)
		operated(t, wrong, tree.Equal, other, wrong)
	}
}

func TestBools(t *testing.T) {
	sides := [...]value.Value{yes, no, nothing, wrong}
	and := [len(sides)][len(sides)]value.Value{
		{yes, no, nothing, wrong},
		{no, no, no, no},
		{nothing, no, nothing, wrong},
		{wrong, no, wrong, wrong},
	}
	or := [len(sides)][len(sides)]value.Value{
		{yes, yes, yes, yes},
		{yes, no, nothing, wrong},
		{yes, nothing, nothing, wrong},
		{yes, wrong, wrong, wrong},
	}
	not := [len(sides)]value.Value{no, yes, nothing, wrong}
	for n, left := range sides {
		for m, right := range sides {
			operated(t, left, tree.And, right, and[n][m])
			operated(t, left, tree.Or, right, or[n][m])
		}
		operated(t, left, tree.Not, value.Value{}, not[n])
	}
}
