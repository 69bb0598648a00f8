package wicket

import (
	"math/rand"
	"strings"
	"testing"

	"wicket/api"
)

const price = `ask plan of "basic", "gold"; ask age int; table price int unique ( plan, age ) : "basic", < 18 = 5 : "basic", [ 18 .. 99 ] = 8 : "gold", - = 20;`

// models are texts that Load takes.
var models = [...]string{
	"ask age int; let old bool = 17 < age;",
	price,
	"ask a int;let b int=a+-3*( a ) ;",
	`ask c of "", "é ;", ","; table t of "x" first (c) : not ""/"," = "x" : - = null;`,
	"ask a int; ask p bool; table t int count (p, a) : true/false, not -9223372036854775808/>1/<2/[-3..4] = if p then a else (a*2)/0 : -, 5 = not p and a = 1 or false;",
	"ask a int;\nlet b int = if a < 1 then if a = 0 then 0 else - 1 else 9223372036854775807;\n\n",
}

func told(t *testing.T, text string, errno api.Errno, place int) {
	t.Helper()
	m, gotErrno, gotPlace := Load(text)
	if gotErrno != errno || gotPlace != place || (m != nil) != (errno == api.OK) {
		t.Errorf("P3: Load(%q) = %v, %d, %d, want %d, %d", text, m != nil, gotErrno, gotPlace, errno, place)
	}
}

func TestP3Models(t *testing.T) {
	for _, text := range models {
		told(t, text, api.OK, 0)
	}
}

func TestP3Long(t *testing.T) {
	fill := func(text string, bytes int) string { return text + strings.Repeat(" ", bytes-len(text)) }
	told(t, fill("ask a int;", api.MaxModel), api.OK, 0)
	told(t, fill("ask a int;", api.MaxModel+1), api.ErrLong, 0)
	told(t, fill("ask a int;;", api.MaxModel), api.ErrSyntax, 10)
	told(t, fill("ask a int;;", api.MaxModel+1), api.ErrLong, 0)
	told(t, strings.Repeat("\xff", 100000), api.ErrLong, 0)
	// Bytes are what counts, not runes.
	told(t, strings.Repeat("é", 501), api.ErrLong, 0)
	told(t, strings.Repeat("é", 500), api.ErrSyntax, 0)
}

func TestP3Syntax(t *testing.T) {
	for _, c := range []struct {
		text  string
		place int
	}{
		{"", 0}, {" ", 1}, {"\n\n", 2}, {"a", 0}, {"ask", 3}, {"ask ", 4}, {"ask age int let", 12}, {`ask "x`, 4},
		{"ask a int", 9}, {"ask a int ", 10}, {"ask a int; ;", 11}, {"ask a int; let", 14},
		{"ask not int;", 4}, {"ask most int;", 4}, {"ask a most;", 6}, {"ask a a;", 6}, {"ask a 1;", 6}, {"ask a1 int;", 5},
		{"let a int = 1", 13}, {"let a int 1;", 10}, {"let a int = ;", 12}, {"let a int = 1 2;", 14}, {"let a int = 1 > 2;", 14},
		{"let a int = 1 + ;", 16}, {"let a int = (1;", 14}, {"let a int = 1);", 13}, {"let a int = 1 = not 2;", 16}, {"let a int = not if;", 16},
		{"let a int = if 1 else 2;", 17}, {"let a int = if 1 then 2 then 3;", 24}, {"let a int = --1;", 13}, {"let a int = 1 < 2 = 3;", 18},
		{"let a int = 9223372036854775808;", 12}, {"let a int = 1 - 9223372036854775808;", 16}, {"let a int = - 9223372036854775809;", 14}, {"let a int = -00;", 13},
		{`ask a of "x", "x";`, 14}, {`ask a of "x" "y";`, 13}, {`ask a of "x",;`, 13}, {`ask a of x;`, 9},
		{"table t int (a) : - = 1;", 12}, {"table t unique (a) : - = 1;", 8}, {"table t int sum a : - = 1;", 16}, {"table t int sum (1) : - = 1;", 17},
		{"table t int sum (a,) : - = 1;", 19}, {"table t int sum (a);", 19}, {"table t int sum (a) : = 1;", 22}, {"table t int sum (a) : -;", 23},
		{"table t int sum (a) : null = 1;", 22}, {"table t int sum (a) : - / 1 = 1;", 24}, {"table t int sum (a) : not - 1 / not 2 = 1;", 32}, {"table t int sum (a) : = 1 = 1;", 22},
		{"table t int sum (a) : < < 1 = 1;", 24}, {"table t int sum (a) : [ 1 .. 2 = 1;", 31}, {"table t int sum (a) : [ - .. 2 ] = 1;", 26}, {"table t int sum (a) : 1 .. 2 = 1;", 24},
		{"table t int sum (a, b) : -, -, - = 1;", 29}, {"table t int sum (a, b) : - = 1;", 27}, {"table t int sum (a) : 9223372036854775808 = 1;", 22},
		{"table t int sum (a) : - 9223372036854775808, 1 = 1;", 43}, {"table t int sum (a) : - = 1 : ;", 30}, {"table t int sum (a) : - = 1, 2;", 27},
		// A fault of syntax comes ahead of those of names and types that stand ahead of it.
		{"let a int = b; let c int = true; ask a int", 42},
	} {
		told(t, c.text, api.ErrSyntax, c.place)
	}
}

func TestP3Bounds(t *testing.T) {
	for _, c := range []struct {
		most        int
		head, again string
		tail        string
		place       int // of the fault within what is there again
	}{
		{api.MaxNest, "let a int = ", "(", "1))))))))));", 0},
		{api.MaxNest, "let a int = ", "if true then 1 else ", "2;", 0},
		{api.MaxTests - 1, "ask a int; table t int sum (a) : 1", " / 2", " = 1;", 1},
		{api.MaxRules, "ask a int; table t int sum (a)", " : - = 1", ";", 1},
	} {
		told(t, c.head+strings.Repeat(c.again, c.most)+c.tail, api.OK, 0)
		told(t, c.head+strings.Repeat(c.again, c.most+1)+c.tail, api.ErrSyntax, len(c.head)+c.most*len(c.again)+c.place)
	}
	told(t, `ask a of "1", "2", "3", "4", "5", "6";`, api.OK, 0)
	told(t, `ask a of "1", "2", "3", "4", "5", "6", "7";`, api.ErrSyntax, 37)
	told(t, "ask a int; ask b int; ask c int; table t int sum (a, b, c) : -, -, - = 1;", api.OK, 0)
	told(t, "ask a int; ask b int; ask c int; table t int sum (a, b, c, t) : -, -, -, - = 1;", api.ErrSyntax, 57)
	items := ""
	for n := range api.MaxItems {
		items += "ask " + string(rune('a'+n)) + " int; "
	}
	told(t, items, api.OK, 0)
	told(t, items+" let z int = 1;", api.ErrSyntax, len(items)+1)
	told(t, items+".", api.ErrSyntax, len(items))
	// What is closed no longer nests.
	told(t, "let a int = "+strings.Repeat("(if true then (1) else 2) + ", 30)+"1;", api.OK, 0)
	told(t, "let a int = "+strings.Repeat("(", 9)+"if true then (1) else 2"+strings.Repeat(")", 9)+";", api.ErrSyntax, 34)
	told(t, "let a int = "+strings.Repeat("(", 9)+"(if true then 1 else 2)"+strings.Repeat(")", 9)+";", api.ErrSyntax, 22)
}

func TestP3Names(t *testing.T) {
	for _, c := range []struct {
		text  string
		place int
	}{
		{"let a int = b;", 12}, {"ask a int; ask a int;", 15}, {"let a int = a;", 12}, {"let a int = b; ask b int;", 12},
		{"ask a int; let a bool = c;", 15}, {"ask a int; let b int = a + (if c then d else a);", 31},
		{"ask a int; table a int sum (b) : - = c;", 17}, {"ask a int; table t int sum (b) : - = c;", 28}, {"ask a int; table t int sum (t) : - = 1;", 28},
		{"ask a int; table t int sum (a, a) : -, - = c;", 31}, {"ask a int; ask b int; table t int sum (a, b, a) : -, -, - = 1;", 45},
		{"ask a int; table t int sum (c, c) : -, - = 1;", 28}, {"ask a int; table t int sum (a) : - = t;", 37},
		// A fault of names comes ahead of those of types that stand ahead of it.
		{"ask a int; let b bool = a; let c int = z;", 39},
	} {
		told(t, c.text, api.ErrName, c.place)
	}
	told(t, "ask a int; let b int = a; table t int sum (b, a) : -, - = a + b; table u int first (t) : - = t;", api.OK, 0)
}

func TestP3Types(t *testing.T) {
	told(t, "ask a int; let b int = a and a;", api.ErrType, 11)
	told(t, " let b int = true; let c bool = 1;", api.ErrType, 1)
	told(t, "ask a int;\n\nlet b bool = a < 1;\nlet c int = b;", api.ErrType, 32)
	told(t, "ask a int; table t bool sum (a) : - = true;", api.ErrType, 11)
	told(t, "ask a bool; table t int sum (a) : < 1 = 1;", api.ErrType, 12)
}

func TestP1LoadEndsAtAllTexts(t *testing.T) {
	random := rand.New(rand.NewSource(3))
	const other = "abz019 \n\"+-*/=<>()[],;:.\x00\x7f\x80\xc3\xa9\xff"
	for _, text := range models {
		for n := range len(text) + 1 {
			sane(t, text[:n])
			sane(t, text[n:])
		}
		for range 3000 {
			bytes := []byte(text)
			for range 1 + random.Intn(3) {
				bytes[random.Intn(len(bytes))] = other[random.Intn(len(other))]
			}
			sane(t, string(bytes))
		}
	}
	for _, piece := range []string{"(", "not ", "if ", "- ", "1+", "let ", "\"", ".", "[", "a", "9", "\xf0", "let a int=("} {
		for _, n := range []int{1, 10, 11, 100, 1000 / len(piece), 100000} {
			sane(t, strings.Repeat(piece, n))
			sane(t, "let a bool = "+strings.Repeat(piece, n))
			sane(t, "table t int sum (a) : "+strings.Repeat(piece, n))
		}
	}
	sane(t, "let a bool = "+strings.Repeat("not ", 245)+"1;")
}

// sane looks that Load tells one thing alone, and the same again.
func sane(t *testing.T, text string) {
	t.Helper()
	m, errno, place := Load(text)
	switch {
	case errno < api.OK || errno > api.ErrType:
		t.Errorf("P1: Load(%q): no such error: %d", text, errno)
	case (m == nil) != (errno != api.OK):
		t.Errorf("P1: Load(%q): %d, with a model: %v", text, errno, m != nil)
	case (errno == api.OK || errno == api.ErrLong) && place != 0, place < 0, place > len(text):
		t.Errorf("P1: Load(%q): %d at %d", text, errno, place)
	}
	again, errnoAgain, placeAgain := Load(text)
	if errno != errnoAgain || place != placeAgain || m.Print() != again.Print() {
		t.Errorf("P1: Load(%q) tells another thing the second time", text)
	}
}

func FuzzLoad(f *testing.F) {
	for _, text := range models {
		f.Add(text)
	}
	f.Fuzz(func(t *testing.T, text string) {
		sane(t, text)
		reprint(t, text)
		recheck(t, text)
		refill(t, text)
		overlook(t, text)
	})
}
