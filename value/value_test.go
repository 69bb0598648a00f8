package value

import (
	"math"
	"strings"
	"testing"
)

func words(list string) Type {
	t := Type{Kind: Word}
	for word := range strings.SplitSeq(list, " ") {
		t = t.With(word)
	}
	return t
}

func TestTypesAreComparedWhole(t *testing.T) {
	if words("x y") != words("x y") {
		t.Error("one list is not the same as itself")
	}
	for _, c := range [][2]Type{
		{words("x y"), words("y x")},
		{words("x"), words("x y")},
		{words(""), {Kind: Word}},
		{{Kind: Int}, {Kind: Bool}},
	} {
		if c[0] == c[1] {
			t.Errorf("%v is the same as %v", c[0], c[1])
		}
	}
}

func TestHolds(t *testing.T) {
	number, truth, x := Value{Kind: Int}, Value{Kind: Bool}, Value{Kind: Word, Text: "x"}
	for _, c := range []struct {
		of   Type
		v    Value
		want bool
	}{
		{Type{Kind: Int}, number, true}, {Type{Kind: Int}, truth, false}, {Type{Kind: Int}, x, false}, {Type{Kind: Int}, Value{}, true},
		{Type{Kind: Bool}, number, false}, {Type{Kind: Bool}, truth, true}, {Type{Kind: Bool}, x, false}, {Type{Kind: Bool}, Value{}, true},
		{words("a x"), number, false}, {words("a x"), x, true}, {words("a b"), x, false}, {words("a"), Value{}, true},
		{words("a"), Value{Kind: Word}, false}, {words(""), Value{Kind: Word}, true},
	} {
		if got := c.of.Holds(c.v); got != c.want {
			t.Errorf("%v holds %v: %v", c.of, c.v, got)
		}
	}
}

func TestWithKeepsItsBounds(t *testing.T) {
	full := words("a b c d e f")
	if full.With("g") != full {
		t.Error("a word was put where there is no room")
	}
	if first := words("a"); first.With("b") == first || first.Has("b") {
		t.Error("With changed the type that it was called on")
	}
}

func TestString(t *testing.T) {
	for want, v := range map[string]Value{
		"null": {}, "0": {Kind: Int}, "-7": {Kind: Int, Number: -7},
		"9223372036854775807": {Kind: Int, Number: math.MaxInt64}, "-9223372036854775808": {Kind: Int, Number: math.MinInt64},
		"true": {Kind: Bool, Truth: true}, "false": {Kind: Bool},
		`""`: {Kind: Word}, `"é\ n"`: {Kind: Word, Text: `é\ n`}, `"null"`: {Kind: Word, Text: "null"},
	} {
		if got := v.String(); got != want {
			t.Errorf("%#v is written %s, want %s", v, got, want)
		}
	}
}

func TestStringOfWrong(t *testing.T) {
	if got := (Value{Kind: Wrong}).String(); got != "error" {
		t.Errorf("wrong is written %s", got)
	}
	if (Value{Kind: Wrong}) == (Value{}) {
		t.Error("wrong is nothing")
	}
}

func TestOf(t *testing.T) {
	if OfInt(-3) != (Value{Kind: Int, Number: -3}) || OfBool(true) != (Value{Kind: Bool, Truth: true}) || OfBool(false) != (Value{Kind: Bool}) {
		t.Error("a value is made of another kind, or another number")
	}
	if OfInt(0) == OfBool(false) || OfInt(0) == (Value{}) || OfBool(false) == (Value{}) {
		t.Error("values of two kinds are the same")
	}
}

func TestReadWhatIsWritten(t *testing.T) {
	for _, c := range []struct {
		of Type
		v  Value
	}{
		{Type{Kind: Int}, OfInt(0)}, {Type{Kind: Int}, OfInt(7)}, {Type{Kind: Int}, OfInt(-7)}, {Type{Kind: Int}, OfInt(math.MaxInt64)}, {Type{Kind: Int}, OfInt(math.MinInt64)},
		{Type{Kind: Bool}, OfBool(true)}, {Type{Kind: Bool}, OfBool(false)},
		{words("x y"), Value{Kind: Word, Text: "x"}}, {words("x y"), Value{Kind: Word, Text: "y"}}, {words(""), Value{Kind: Word}},
	} {
		if got, ok := c.of.Read(c.v.String()); !ok || got != c.v {
			t.Errorf("%s is read %v, %v", c.v, got, ok)
		}
	}
}

func TestReadWhatIsNot(t *testing.T) {
	for _, written := range []string{
		"", " ", "null", "error", "+1", "-0", "00", "01", "-01", "1 ", " 1", "1.0", "1e1", "0x1", "1_0", "--1", "-", "9223372036854775808", "-9223372036854775809",
		"True", "TRUE", "t", "T", "true ", `"true"`, "x", `"`, `""`, `"z"`, `"x`, `x"`, `""x""`, `"x" `, `'x'`, `"X"`, `"x","y"`, strings.Repeat("9", 100000),
	} {
		for _, of := range []Type{{Kind: Int}, {Kind: Bool}, words("x y")} {
			if got, ok := of.Read(written); ok || got != (Value{}) {
				t.Errorf("%.30q is read as %v", written, got)
			}
		}
	}
	for _, c := range []struct {
		of      Type
		written string
	}{
		{Type{Kind: Int}, "true"}, {Type{Kind: Int}, `"1"`}, {Type{Kind: Bool}, "1"}, {Type{Kind: Bool}, "0"}, {Type{Kind: Bool}, `"x"`}, {words("1 true"), "1"}, {words("1 true"), "true"},
	} {
		if got, ok := c.of.Read(c.written); ok {
			t.Errorf("%s is read as %v", c.written, got)
		}
	}
}
