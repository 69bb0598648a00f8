package token

import (
	"strings"
	"testing"
)

// kinds scans a text and tells the kinds of its tokens, and the place of the last.
func kinds(text string) ([]Kind, int) {
	var list []Kind
	place := 0
	for _, one := range Scan(text) {
		list = append(list, one.Kind)
		place = one.Place
	}
	return list, place
}

func TestScanKinds(t *testing.T) {
	for _, c := range []struct {
		text  string
		want  []Kind
		place int
	}{
		{"", []Kind{End}, 0},
		{" \n ", []Kind{End}, 3},
		{"ask a int;", []Kind{Ask, Name, Int, Semicolon, End}, 10},
		{"1and2", []Kind{Number, And, Number, End}, 5},
		{"a1b", []Kind{Name, Number, Name, End}, 3},
		{"iff", []Kind{Name, End}, 3},
		{"+-*/=<>()[],;:..", []Kind{Plus, Minus, Star, Slash, Equal, Less, Greater, Open, Close, OpenSquare, CloseSquare, Comma, Semicolon, Colon, Range, End}, 16},
		{"1..2", []Kind{Number, Range, Number, End}, 4},
		{"1.2", []Kind{Number, Bad}, 1},
		{"...", []Kind{Range, Bad}, 2},
		{"a .", []Kind{Name, Bad}, 2},
		{". .", []Kind{Bad}, 0},
		{"a\t", []Kind{Name, Bad}, 1},
		{"a\r\n", []Kind{Name, Bad}, 1},
		{"aB", []Kind{Name, Bad}, 1},
		{"a\xff", []Kind{Name, Bad}, 1},
		{"a\u00a0b", []Kind{Name, Bad}, 1},
		{"abcdefgh", []Kind{Name, End}, 8},
		{"a abcdefghi b", []Kind{Name, Bad}, 2},
		{"a abcdefghi", []Kind{Name, Bad}, 2},
		{`"a""b"`, []Kind{Word, Word, End}, 6},
	} {
		got, place := kinds(c.text)
		if len(got) != len(c.want) || place != c.place {
			t.Errorf("Scan(%q) = %v, %d, want %v, %d", c.text, got, place, c.want, c.place)
			continue
		}
		for n := range got {
			if got[n] != c.want[n] {
				t.Errorf("Scan(%q) = %v, want %v", c.text, got, c.want)
			}
		}
	}
}

func TestScanOne(t *testing.T) {
	for _, c := range []struct {
		text string
		want Kind
	}{
		{"0", Number}, {"10", Number}, {"00", Bad}, {"01", Bad},
		{"9223372036854775807", Number}, {"9223372036854775808", Great}, {"9223372036854775809", Bad},
		{"09223372036854775808", Bad}, {"10000000000000000000", Bad}, {strings.Repeat("9", 500), Bad},
		{"ask", Ask}, {"let", Let}, {"table", Table}, {"int", Int}, {"bool", Bool}, {"of", Of},
		{"unique", Unique}, {"first", First}, {"sum", Sum}, {"count", Count}, {"least", Least}, {"most", Most},
		{"true", True}, {"false", False}, {"null", Null}, {"if", If}, {"then", Then}, {"else", Else},
		{"or", Or}, {"and", And}, {"not", Not}, {"any", Name},
		{`""`, Word}, {`" "`, Word}, {`"12345678"`, Word}, {`"123456789"`, Bad},
		{`"éééééééé"`, Word}, {`"ééééééééé"`, Bad}, {`"😀😀😀😀😀😀😀😀"`, Word},
		{"\"\x7f\"", Word}, {"\"\x1f\"", Bad}, {"\"\n\"", Bad}, {"\"\x00\"", Bad},
		{"\"\ufffd\"", Word}, {"\"\xff\"", Bad}, {"\"\xc3\"", Bad}, {"\"\xed\xa0\x80\"", Bad}, {"\"a\xef\xbf\"", Bad},
		{`"`, Bad}, {`"a`, Bad}, {"\"a\xc3", Bad},
	} {
		got := Scan(c.text)[0]
		if got.Kind != c.want || got.Place != 0 {
			t.Errorf("Scan(%q) begins with %d at %d, want %d at 0", c.text, got.Kind, got.Place, c.want)
		}
		if c.want != Bad && got.Text != c.text {
			t.Errorf("Scan(%q) has the text %q", c.text, got.Text)
		}
	}
}

func TestScanPlaces(t *testing.T) {
	places := []int{}
	for _, one := range Scan(" a\n\"é\"12..") {
		places = append(places, one.Place)
	}
	want := []int{1, 3, 7, 9, 11}
	if len(places) != len(want) {
		t.Fatalf("places = %v, want %v", places, want)
	}
	for n := range want {
		if places[n] != want[n] {
			t.Fatalf("places = %v, want %v", places, want)
		}
	}
}

func TestJoin(t *testing.T) {
	for text, want := range map[string]string{
		"a":                  "a",
		" a ,b; c":           "a, b; c",
		"a+-1*( b )":         "a + - 1 * ( b )",
		"[-1..2]":            "[ - 1 .. 2 ]",
		"\" ;\",\"a  b\" ;":  "\" ;\", \"a  b\";",
		":not<1/\n>2=\n3\n;": ": not < 1 / > 2 = 3;",
	} {
		tokens := Scan(text)
		if got := Join(tokens[:len(tokens)-1]); got != want {
			t.Errorf("Join of %q = %q, want %q", text, got, want)
		}
	}
	if got := Join(nil); got != "" {
		t.Errorf("Join of nothing = %q", got)
	}
}
