package wicket

import (
	"slices"
	"strings"
	"testing"

	"wicket/api"
	"wicket/tree"
)

func wants(t *testing.T, f *Form, name string, want ...string) {
	t.Helper()
	if got, errno := f.Wanted(name); errno != api.OK || !slices.Equal(got, want) {
		t.Errorf("P8: Wanted(%s) of %q = %v, %d, want %v", name, printed(f), got, errno, want)
	}
}

// answered is a form with answers: names with values, parted by spaces.
func answered(t *testing.T, text, answers string) *Form {
	t.Helper()
	f := begun(t, text)
	for answer := range strings.FieldsSeq(answers) {
		question, value, _ := strings.Cut(answer, "=")
		sets(t, f, question, value, api.OK)
	}
	return f
}

// asking has questions, decisions that hang on nothing (yes, no, none, bad, w,
// n, k), and bools that come to what they are called, but hang on q (on, off).
const asking = `ask a int; ask b int; ask c int; ask p bool; ask q bool; ` +
	`let yes bool = true; let no bool = false; let none bool = null; let bad bool = 1 / 0 = 1; ` +
	`let w int = 1 / 0; let n int = null; let k int = 3; ` +
	`table on bool first (q) : true / false = false : - = true; table off bool first (q) : true / false = true : - = false; let s int = a + b; `

func TestP8Example(t *testing.T) {
	f := begun(t, price)
	wants(t, f, "price", "plan", "age")
	sets(t, f, "plan", `"gold"`, api.OK)
	wants(t, f, "price")
	sets(t, f, "age", "5", api.OK)
	wants(t, f, "price")
	sets(t, f, "plan", `"basic"`, api.OK)
	wants(t, f, "price")
	drops(t, f, "age", api.OK)
	wants(t, f, "price", "age")
}

// TestP8Readme is what README.md says.
func TestP8Readme(t *testing.T) {
	f := begun(t, "ask member bool; ask age int; let fee int = if member then 0 else age / 2;")
	wants(t, f, "fee", "member", "age")
	sets(t, f, "member", "true", api.OK)
	wants(t, f, "fee")
	sets(t, f, "member", "false", api.OK)
	wants(t, f, "fee", "age")
}

// TestP8Questions: whatever the answer is, it is one.
func TestP8Questions(t *testing.T) {
	f := begun(t, `ask a int; ask p bool; ask c of "x", "", "null"; let d int = 1;`)
	for question, answers := range map[string][]string{
		"a": {"0", "1", "-1", most, least}, "p": {"false", "true"}, "c": {`""`, `"x"`, `"null"`},
	} {
		wants(t, f, question, question)
		for _, answer := range answers {
			sets(t, f, question, answer, api.OK)
			wants(t, f, question)
		}
		sets(t, f, question, "x", api.ErrValue)
		wants(t, f, question)
		drops(t, f, question, api.OK)
		wants(t, f, question, question)
		sets(t, f, question, "null", api.ErrValue)
		wants(t, f, question, question)
	}
	wants(t, f, "d")
}

func letWants(t *testing.T, kind, expr, answers, want string) {
	t.Helper()
	f := answered(t, asking+"let x "+kind+" = "+expr+";", answers)
	if got, errno := f.Wanted("x"); errno != api.OK || !slices.Equal(got, strings.Fields(want)) {
		t.Errorf("P8: of %q with %q Wanted = %v, %d, want %s", expr, answers, got, errno, want)
	}
}

func TestP8AndOr(t *testing.T) {
	for _, c := range []struct{ expr, answers, want string }{
		{"p and q", "", "p q"}, {"q and p", "", "p q"}, {"p and p", "", "p"}, {"p or q", "", "p q"}, {"q or p", "", "p q"}, {"p or p", "", "p"},
		{"p and q", "p=false", ""}, {"q and p", "p=false", ""}, {"p and q", "p=true", "q"}, {"q and p", "p=true", "q"}, {"p and q", "p=true q=true", ""},
		{"p or q", "p=true", ""}, {"q or p", "p=true", ""}, {"p or q", "p=false", "q"}, {"q or p", "p=false", "q"}, {"p or q", "p=false q=false", ""},

		{"no and p", "", ""}, {"p and no", "", ""}, {"false and p", "", ""}, {"p and false", "", ""}, {"p and not yes", "", ""}, {"p and 1 = 2", "", ""}, {"3 < k and p", "", ""},
		{"yes and p", "", "p"}, {"p and yes", "", "p"}, {"none and p", "", "p"}, {"p and none", "", "p"}, {"null and p", "", "p"}, {"p and null", "", "p"}, {"bad and p", "", "p"}, {"p and bad", "", "p"}, {"1 / 0 = 1 and p", "", "p"},
		{"yes or p", "", ""}, {"p or yes", "", ""}, {"true or p", "", ""}, {"p or true", "", ""}, {"p or not no", "", ""}, {"p or 1 = 1", "", ""}, {"2 < k or p", "", ""},
		{"no or p", "", "p"}, {"p or no", "", "p"}, {"none or p", "", "p"}, {"p or none", "", "p"}, {"null or p", "", "p"}, {"bad or p", "", "p"}, {"p or bad", "", "p"}, {"p or 1 / 0 = 1", "", "p"},

		// It comes to what is enough, but may become another.
		{"off and p", "", "p q"}, {"p and off", "", "p q"}, {"on or p", "", "p q"}, {"p or on", "", "p q"}, {"off and yes", "", "q"}, {"none and off", "", "q"}, {"on or bad", "", "q"},
		{"off and no", "", ""}, {"no and off", "", ""}, {"on or yes", "", ""}, {"yes or on", "", ""}, {"off or p", "", "p q"}, {"on and p", "", "p q"},
		{"off and p", "q=true", "p"}, {"off and p", "p=false", ""}, {"on or p", "q=true", "p"}, {"on or p", "p=true", ""}, {"not on and p", "", "p q"},

		{"p and q and no", "", ""}, {"no and p and q", "", ""}, {"p and no and q", "", ""}, {"p and (q and no)", "", ""}, {"p or q or yes", "", ""}, {"p or (yes or q)", "", ""},
		{"p or q and no", "", "p"}, {"(p or q) and no", "", ""}, {"p and (q or yes)", "", "p"}, {"p and q or yes", "", ""}, {"not (p and no)", "", ""}, {"not (p or no)", "", "p"}, {"not p and q", "p=true", ""}, {"not p or q", "p=false", ""},
		{"p and a = 1", "", "a p"}, {"p and a = 1", "a=2", ""}, {"a = 1 or b < 2 or q", "b=1", ""}, {"a = 1 or b < 2 or q", "b=2", "a q"}, {"p and a = 1", "a=1", "p"},
	} {
		letWants(t, "bool", c.expr, c.answers, c.want)
	}
}

func TestP8If(t *testing.T) {
	for _, c := range []struct{ expr, answers, want string }{
		{"if p then a else b", "", "a b p"}, {"if p then a else b", "p=true", "a"}, {"if p then a else b", "p=false", "b"}, {"if p then a else b", "a=1", "b p"}, {"if p then a else b", "a=1 b=1", "p"}, {"if p then a else b", "a=1 p=true", ""}, {"if p then a else b", "b=1 p=true", "a"}, {"if p then 1 else 1", "", "p"},
		{"if yes then a else b", "", "a"}, {"if no then a else b", "", "b"}, {"if none then a else b", "", ""}, {"if bad then a else b", "", ""}, {"if true then a else b", "", "a"}, {"if false then a else b", "", "b"}, {"if null then a else b", "", ""}, {"if 1 / 0 = 1 then a else b", "", ""}, {"if w < 1 then a else b", "", ""}, {"if n < 1 then a else b", "", ""},
		{"if on then a else b", "", "a b q"}, {"if off then a else b", "", "a b q"}, {"if on then a else b", "q=true", "b"}, {"if off then a else b", "q=false", "a"},
		{"if p and no then a else b", "", "b"}, {"if p or yes then a else b", "", "a"}, {"if p and none then a else b", "", "a b p"}, {"if p or bad then a else b", "", "a b p"}, {"if p and none then a else b", "p=true", ""}, {"if p and none then a else b", "p=false", "b"}, {"if p or bad then a else b", "p=false", ""}, {"if p or bad then a else b", "p=true", "a"},
		{"if a / 0 = 1 then b else c", "", "a b c"}, {"if a / 0 = 1 then b else c", "a=1", ""}, {"if a = n then b else c", "", "a b c"}, {"if a = n then b else c", "a=1", ""},
		{"if p then if q then a else b else c", "", "a b c p q"}, {"if p then if q then a else b else c", "p=true", "a b q"}, {"if p then if q then a else b else c", "p=false", "c"}, {"if p then if q then a else b else c", "q=true", "a c p"}, {"if p then if q then a else b else c", "p=true q=false", "b"},
		{"if (if p then q else yes) then a else b", "", "a b p q"}, {"if (if p then q else yes) then a else b", "p=false", "a"}, {"if (if p then q else yes) then a else b", "p=true", "a b q"}, {"if a < 1 then a else b", "a=0", ""}, {"if a < 1 then a else b", "a=1", "b"},
		{"(if p then a else b) + (if p then c else 1)", "p=true", "a c"}, {"(if p then a else b) + (if p then c else 1)", "p=false", "b"}, {"if yes then w else a", "", ""}, {"if no then a else n", "", ""},
	} {
		letWants(t, "int", c.expr, c.answers, c.want)
	}
}

// TestP8OtherOperators: all else hangs on what its parts do, though it may be
// known what it comes to.
func TestP8OtherOperators(t *testing.T) {
	for operator, kind := range map[string]string{"+": "int", "-": "int", "*": "int", "/": "int", "<": "bool", "=": "bool"} {
		for _, c := range []struct{ left, right, answers, want string }{
			{"a", "b", "", "a b"}, {"b", "a", "", "a b"}, {"a", "b", "a=1", "b"}, {"a", "b", "b=1", "a"}, {"a", "b", "a=1 b=0", ""}, {"a", "a", "", "a"}, {"a", "a", "a=0", ""},
			{"a", "w", "", "a"}, {"w", "a", "", "a"}, {"a", "n", "", "a"}, {"n", "a", "", "a"}, {"a", "null", "", "a"}, {"null", "a", "", "a"}, {"w", "n", "", ""}, {"0", "a", "", "a"}, {"a", "0", "", "a"}, {"1", "2", "", ""}, {"k", "k", "", ""}, {"s", "k", "", "a b"}, {"k", "s", "a=1", "b"},
		} {
			letWants(t, kind, c.left+" "+operator+" "+c.right, c.answers, c.want)
		}
	}
	for _, c := range []struct{ expr, answers, want string }{
		{"not p", "", "p"}, {"not p", "p=true", ""}, {"not p", "p=false", ""}, {"not not p", "", "p"}, {"not yes", "", ""}, {"not none", "", ""}, {"not bad", "", ""}, {"not off", "", "q"}, {"p", "", "p"}, {"p", "p=false", ""}, {"true", "", ""}, {"null", "", ""},
		{"p = q", "", "p q"}, {"p = q", "p=false", "q"}, {"p = no", "", "p"}, {"a < b + c", "b=1", "a c"}, {"(a < 1) = (b < 1)", "", "a b"}, {"a * 0 = 0", "", "a"}, {"a - a = 0", "", "a"},
	} {
		letWants(t, "bool", c.expr, c.answers, c.want)
	}
	f := begun(t, `ask c of "x", "y"; ask d of "x", "y"; let e bool = c = d; let g bool = c = "x"; let h of "x", "y" = if g then d else "y";`)
	wants(t, f, "e", "c", "d")
	wants(t, f, "g", "c")
	wants(t, f, "h", "c", "d")
	sets(t, f, "c", `"y"`, api.OK)
	wants(t, f, "e", "d")
	wants(t, f, "g")
	wants(t, f, "h")
}

// TestP8Tables has what a table hangs on if it is a first or a count, and
// under every other policy.
func TestP8Tables(t *testing.T) {
	for _, c := range []struct{ rules, answers, other, first, count string }{
		{"(a) : 1 = b", "", "a b", "a b", "a"}, {"(a) : 1 = b", "b=1", "a", "a", "a"}, {"(a) : 1 = b", "a=1", "b", "b", ""}, {"(a) : 1 = b", "a=2", "", "", ""}, {"(a) : not 1 = b", "a=1", "", "", ""}, {"(a) : not 1 = b", "a=2", "b", "b", ""}, {"(a) : < 1 / [ 5 .. 7 ] = b", "a=6", "b", "b", ""}, {"(a) : < 1 / [ 5 .. 7 ] = b", "a=8", "", "", ""},
		// Cells for anything, at columns that hang on something.
		{"(a) : - = b", "", "b", "b", ""}, {"(a) : - = a", "", "a", "a", ""}, {"(a, p) : -, - = 1 : -, - = 2", "", "", "", ""}, {"(a, p) : -, - = b : -, - = c", "", "b c", "b", ""}, {"(a, p) : 1, - = 1 : 2, - = 2", "", "a", "a", "a"},
		// Rules that are out for good.
		{"(a, p) : 1, true = b : 2, - = c", "", "a b c p", "a b c p", "a p"}, {"(a, p) : 1, true = b : 2, - = c", "p=false", "a c", "a c", "a"}, {"(a, p) : 1, true = b : 2, - = c", "p=true", "a b c", "a b c", "a"}, {"(a, p) : 1, true = b : 2, - = c", "a=1", "b p", "b p", "p"}, {"(a, p) : 1, true = b : 2, - = c", "a=2", "c", "c", ""}, {"(a, p) : 1, true = b : 2, - = c", "a=3", "", "", ""}, {"(a, p) : 1, true = b : 2, - = c", "a=1 p=true", "b", "b", ""},
		{"(a, p) : -, true = b : 1, - = c", "", "a b c p", "a b c p", "a p"}, {"(a, p) : -, true = b : 1, - = c", "a=2", "b p", "b p", "p"}, {"(a, p) : -, true = b : 1, - = c", "p=true", "a b c", "b", "a"}, {"(a, p) : -, true = b : 1, - = c", "p=false", "a c", "a c", "a"}, {"(p, a) : true, 1 = b : false, 2 = c", "p=true", "a b", "a b", "a"}, {"(p, a) : true, 1 = b : false, 2 = c", "p=false", "a c", "a c", "a"},
		// Columns that are wrong, or nothing, and hang on nothing.
		{"(w) : 1 = b", "", "b", "b", ""}, {"(w) : - = b", "", "b", "b", ""}, {"(w, a) : 1, 1 = b", "", "a b", "a b", "a"}, {"(w, a) : 1, 1 = b", "a=1", "b", "b", ""}, {"(w, a) : 1, 1 = b", "a=2", "", "", ""}, {"(w, p) : 1, - = 2 : -, true = b", "", "b p", "", "p"}, {"(w, p) : 1, true = 2 : -, false = b", "p=false", "b", "b", ""},
		{"(n) : 1 = b : not 1 = c", "", "", "", ""}, {"(n) : - = b", "", "b", "b", ""}, {"(n, a) : 1, 1 = b : not 1, 2 = c", "", "", "", ""}, {"(n, a) : -, 1 = b", "", "a b", "a b", "a"}, {"(n, w) : 1, 1 = b", "", "", "", ""}, {"(n, w) : -, 1 = b", "", "b", "b", ""},
		{"(k, a) : 3, 1 = b : 4, 2 = c", "", "a b", "a b", "a"}, {"(k, a) : > 3, 1 = b : -, 2 = c", "", "a c", "a c", "a"}, {"(k) : 3 = b : - = c", "", "b c", "b", ""}, {"(no, p) : true, true = a : false, false = b", "", "b p", "b p", "p"},
		// Columns that are decisions which hang on something, whatever they come to.
		{"(s) : 1 = c", "", "a b c", "a b c", "a b"}, {"(s) : 1 = c", "a=1", "b c", "b c", "b"}, {"(s) : 1 = c", "a=1 b=0", "c", "c", ""}, {"(s) : 1 = c", "a=1 b=1", "", "", ""}, {"(s) : - = c", "", "c", "c", ""},
		{"(off, a) : true, 1 = b : false, - = c", "", "a b c q", "a b c q", "a q"}, {"(off, a) : true, 1 = b : false, - = c", "q=false", "a b", "a b", "a"}, {"(off) : true = b", "", "b q", "b q", "q"}, {"(on) : true = b : - = c", "", "b c q", "b c q", "q"}, {"(on) : true = b : - = c", "q=true", "c", "c", ""}, {"(off) : true = b : - = c", "q=true", "b c", "b", ""},
		{"(s, off) : 1, true = c : 2, false = 4", "a=1 b=1", "q", "q", "q"}, {"(s, off) : 1, true = c : 2, false = 4", "q=true", "a b c", "a b c", "a b"}, {"(s, a, off) : 1, -, - = c : -, 2, - = k : -, -, true = b", "a=2", "b c q", "b c", "b q"},
		// Rules ahead of the first settled one, itself, and those behind it.
		{"(p) : true = 1 : - = b", "p=true", "b", "", ""}, {"(p) : true = b : - = c", "p=true", "b c", "b", ""}, {"(p) : true = 1 : - = b", "p=false", "b", "b", ""}, {"(p) : true = 1 : - = b", "", "b p", "b p", "p"},
		{"(p, a) : true, 1 = b : -, 2 = 5 : -, - = c : -, 9 = b", "p=false", "a b c", "a c", "a"}, {"(p, a) : true, 1 = b : -, 2 = 5 : -, - = c : -, 9 = b", "", "a b c p", "a b c p", "a p"}, {"(a, p) : 1, - = b : -, true = 2 : -, - = c", "p=true", "a b c", "a b", "a"}, {"(a, p) : 1, - = b : -, true = 2 : -, - = c", "p=false", "a b c", "a b c", "a"}, {"(a, p) : 1, - = b : -, true = 2 : -, - = c", "a=1", "b c p", "b", "p"}, {"(a, p) : 1, - = b : -, true = 2 : -, - = c", "a=2", "c p", "c p", "p"},
		{"(a, w) : 1, - = b : -, 1 = 2 : -, - = c", "", "a b c", "a b", "a"}, {"(p, q) : -, true = 1 : -, - = 2 : true, - = a", "", "a p q", "q", "p q"}, {"(p, q) : -, - = 1 : -, true = 2 : true, - = a", "", "a p q", "", "p q"},
		// A rule that is out for good settles nothing.
		{"(k, a) : 4, - = 1 : -, 1 = b : 3, - = 2 : -, - = c", "", "a b c", "a b", "a"},
		// What the outputs hang on is told of them as of all expressions.
		{"(p) : true = if p then a else b", "", "a b p", "a b p", "p"}, {"(p) : true = if p then a else b", "p=true", "a", "a", ""}, {"(p) : - = if p then a else b", "", "a b p", "a b p", ""}, {"(k) : 3 = if p and no then a else b", "", "b", "b", ""}, {"(k) : 3 = s + k : 3 = n", "b=1", "a", "a", ""},
	} {
		for _, policy := range []string{"unique", "first", "sum", "count", "least", "most"} {
			want := c.other
			switch policy {
			case "first":
				want = c.first
			case "count":
				want = c.count
			}
			f := answered(t, asking+"table t int "+policy+" "+c.rules+";", c.answers)
			if got, errno := f.Wanted("t"); errno != api.OK || !slices.Equal(got, strings.Fields(want)) {
				t.Errorf("P8: of %s %s with %q Wanted = %v, %d, want %s", policy, c.rules, c.answers, got, errno, want)
			}
		}
	}
	for _, c := range []struct{ table, answers, want string }{
		{"bool first (p) : true = q : - = false", "", "p q"}, {"bool first (p) : true = q : - = false", "p=true", "q"}, {"bool first (p) : true = q : - = false", "p=false", ""}, {"bool unique (a) : < 0 = p : > 0 = q", "a=1", "q"}, {"int count (a) : 1 = p : 2 = q and p", "", "a"},
	} {
		f := answered(t, asking+"table t "+c.table+";", c.answers)
		wants(t, f, "t", strings.Fields(c.want)...)
	}
	f := begun(t, `ask c of "x", "y"; ask d of "x", "y"; table t of "x", "y" unique (c) : "x" = d : not "x" = "y";`)
	wants(t, f, "t", "c", "d")
	sets(t, f, "c", `"x"`, api.OK)
	wants(t, f, "t", "d")
	sets(t, f, "c", `"y"`, api.OK)
	wants(t, f, "t")
}

// TestP8Order: as the items stand, not as they are named, and none twice.
func TestP8Order(t *testing.T) {
	f := begun(t, `let k int = 1; ask z int; let d int = z + k; ask m bool; ask b int; let e int = b + z + b + d; ask y int; ask a int; let g int = a + e + z; table t int sum (a, m, z) : -, true, 1 = g + b : 2, -, - = b : -, -, 3 = y;`)
	for name, want := range map[string]string{"k": "", "z": "z", "d": "z", "m": "m", "b": "b", "e": "z b", "y": "y", "a": "a", "g": "z b a", "t": "z m b y a"} {
		wants(t, f, name, strings.Fields(want)...)
	}
	sets(t, f, "b", "1", api.OK)
	wants(t, f, "t", "z", "m", "y", "a")
	sets(t, f, "z", "3", api.OK)
	wants(t, f, "t", "y", "a")
}

func TestP8DecisionsOnDecisions(t *testing.T) {
	const text = `ask p bool; ask a int; ask b int; ask c int; let x int = if p then a else b; let y int = x + c; table z int sum (y, x) : > 0, - = c : -, < 0 = b; let v bool = p and z = 1; let u int = if v then y else 7;`
	for answers, want := range map[string][5]string{
		"":                     {"p a b", "p a b c", "p a b c", "p a b c", "p a b c"},
		"p=true":               {"a", "a c", "a b c", "a b c", "a b c"},
		"p=false":              {"b", "b c", "b c", "", ""},
		"p=false b=1":          {"", "c", "c", "", ""},
		"p=true a=1":           {"", "c", "c", "c", "c"},
		"p=true a=-1":          {"", "c", "b c", "b c", "b c"},
		"p=true a=-1 c=0":      {"", "", "b", "b", "b"},
		"p=true a=1 c=2":       {"", "", "", "", ""},
		"p=true c=2":           {"a", "a", "a b", "a b", "a b"},
		"a=1 b=2":              {"p", "p c", "p c", "p c", "p c"},
		"a=1 b=2 c=3":          {"p", "p", "p", "p", "p"},
		"p=true a=-9 b=1":      {"", "c", "c", "c", "c"},
		"p=true a=1 c=" + most: {"", "", "", "", ""},
	} {
		f := answered(t, text, answers)
		for n, name := range []string{"x", "y", "z", "v", "u"} {
			if got, errno := f.Wanted(name); errno != api.OK || !slices.Equal(got, strings.Fields(want[n])) {
				t.Errorf("P8: with %q Wanted(%s) = %v, %d, want %s", answers, name, got, errno, want[n])
			}
		}
	}
}

// TestP8Steps: on one form, answers that are given, changed, refused and, without
// a value, dropped, and what is wanted then.
func TestP8Steps(t *testing.T) {
	f := begun(t, `ask p bool; ask a int; ask b int; let x int = if p then a else b; table t int first (a, p) : < 0, - = 1 : -, true = b : -, - = 2;`)
	for n, c := range []struct {
		question, value string
		errno           api.Errno
		x, t            string
	}{
		{"p", "null", api.ErrValue, "p a b", "p a b"},
		{"p", "true", api.OK, "a", "a b"},
		{"a", "-1", api.OK, "", ""},
		{"a", "1", api.OK, "", "b"},
		{"p", "false", api.OK, "b", ""},
		{"p", "no", api.ErrValue, "b", ""},
		{"b", "5", api.OK, "", ""},
		{"a", "", api.OK, "", "a"},
		{"x", "", api.ErrQuestion, "", "a"},
		{"p", "true", api.OK, "a", "a"},
		{"b", "", api.OK, "a", "a b"},
		{"b", "", api.OK, "a", "a b"},
		{"t", "1", api.ErrQuestion, "a", "a b"},
		{"p", "", api.OK, "p a b", "p a b"},
		{"a", "-5", api.OK, "p b", ""},
		{"a", "5", api.OK, "p b", "p b"},
		{"b", "0", api.OK, "p", "p"},
		{"a", "5", api.OK, "p", "p"},
		{"p", "true", api.OK, "", ""},
	} {
		if c.value == "" {
			drops(t, f, c.question, c.errno)
		} else {
			sets(t, f, c.question, c.value, c.errno)
		}
		for name, want := range map[string]string{"x": c.x, "t": c.t} {
			if got, errno := f.Wanted(name); errno != api.OK || !slices.Equal(got, strings.Fields(want)) {
				t.Errorf("P8: step %d: Wanted(%s) = %v, %d, want %s", n, name, got, errno, want)
			}
		}
	}
}

func TestP8NoSuch(t *testing.T) {
	f := begun(t, `ask a int; ask p bool; let l int = a; table t int sum (p) : true = a : - = l;`)
	sets(t, f, "p", "true", api.OK)
	was := state(f)
	for _, name := range []string{"", " ", "z", "A", "aa", "a ", " a", "a;", "ask", "int", "true", "null", "4", "a, p", "ap", "\xff", "\x00", strings.Repeat("a", 100000)} {
		if got, errno := f.Wanted(name); got != nil || errno != api.ErrName {
			t.Errorf("P8: Wanted(%.20q) = %v, %d", name, got, errno)
		}
	}
	if got := state(f); !slices.Equal(got, was) {
		t.Errorf("P1: what was refused changed %v to %v", was, got)
	}
}

// TestP8Most has as many items as there may be: questions and one decision on
// them all, or decisions that each name the one ahead several times; and the
// deepest and longest expressions.
func TestP8Most(t *testing.T) {
	text, sum := "", "0"
	var questions []string
	for n := range api.MaxItems - 1 {
		name := string(rune('a' + n))
		text += "ask " + name + " int;"
		sum += "+" + name
		questions = append(questions, name)
	}
	f := begun(t, text+"let z int="+sum+";")
	wants(t, f, "z", questions...)
	wants(t, begun(t, text+"ask z int;"), "z", "z")
	for n, name := range questions {
		sets(t, f, name, "1", api.OK)
		wants(t, f, "z", questions[n+1:]...)
	}

	for _, head := range []string{"let X int=if W<1 then W*W else W/W;", "table X int sum(W):<1=W:>1=W:-=W;", "let X int=if W<1 and W=1 or W=2 then 1 else 2;"} {
		text, ahead := "ask a int;", "a"
		for n := 1; n < api.MaxItems; n++ {
			name := string(rune('a' + n))
			text += strings.NewReplacer("X", name, "W", ahead).Replace(head)
			ahead = name
		}
		f := begun(t, text)
		wants(t, f, ahead, "a")
		sets(t, f, "a", "1", api.OK)
		wants(t, f, ahead)
	}

	for expr, want := range map[string][]string{
		strings.Repeat("not ", 200) + "p":                                         {"p"},
		strings.Repeat("true and ", 90) + "p":                                     {"p"},
		strings.Repeat("p and ", 120) + "false":                                   nil,
		"p" + strings.Repeat(" and p", 120):                                       {"p"},
		"p" + strings.Repeat(" or p", 120) + " or true":                           nil,
		strings.Repeat("if ", 10) + "p" + strings.Repeat(" then q else p", 10):    {"p", "q"},
		strings.Repeat("if true then ", 10) + "p" + strings.Repeat(" else q", 10): {"p"},
		strings.Repeat("(", 10) + "p" + strings.Repeat(" and true)", 10):          {"p"},
	} {
		wants(t, begun(t, "ask p bool; ask q bool; let x bool="+expr+";"), "x", want...)
	}
}

// TestP2WantedIsTheCallers writes into what came out, and into its spare room.
func TestP2WantedIsTheCallers(t *testing.T) {
	m, _, _ := Load("ask a int; ask b int; ask c int; let d int = a + b + c; let e int = d; let g int = 1;")
	one, other := m.New(), m.New()
	sets(t, other, "a", "1", api.OK)
	kept, _ := one.Wanted("d")
	for _, f := range []*Form{one, other} {
		for _, item := range m.items {
			list, _ := f.Wanted(item.Name)
			again, _ := f.Wanted(item.Name)
			for _, l := range [][]string{list, append(again, "!", "!")} {
				for n := range l[:cap(l)] {
					l[:cap(l)][n] = "!"
				}
			}
		}
	}
	if want := []string{"a", "b", "c"}; !slices.Equal(kept, want) {
		t.Errorf("P2: Wanted = %v, want %v", kept, want)
	}
	for f, want := range map[*Form][]string{one: {"a", "b", "c"}, other: {"b", "c"}, m.New(): {"a", "b", "c"}} {
		wants(t, f, "d", want...)
		wants(t, f, "e", want...)
		wants(t, f, "b", "b")
		wants(t, f, "g")
	}
	lasts(t, one, "d", "e", "g")
	lasts(t, other, "d")
	comesTo(t, other, "a", "1")
}

// TestP2WantedOfSeveralForms: each tells of its own answers.
func TestP2WantedOfSeveralForms(t *testing.T) {
	m, _, _ := Load(price)
	text := m.Print()
	one, two, three := m.New(), m.New(), m.New()
	sets(t, one, "plan", `"gold"`, api.OK)
	sets(t, two, "plan", `"basic"`, api.OK)
	for range 2 {
		wants(t, one, "price")
		wants(t, two, "price", "age")
		wants(t, three, "price", "plan", "age")
	}
	drops(t, one, "plan", api.OK)
	sets(t, three, "age", "7", api.OK)
	wants(t, one, "price", "plan", "age")
	wants(t, two, "price", "age")
	wants(t, three, "price", "plan")
	wants(t, m.New(), "price", "plan", "age")
	if m.Print() != text {
		t.Error("P2: forms changed their model")
	}
}

// TestP8ChangesNothing: it is asked, not worked out.
func TestP8ChangesNothing(t *testing.T) {
	f := answered(t, asking+"table t int first (off, a) : true, 1 = b : - , 2 = s : -, - = c;", "p=true a=2 a=1")
	was := state(f)
	for _, item := range f.items {
		f.Wanted(item.Name)
	}
	f.Wanted("nosuch")
	if got := state(f); !slices.Equal(got, was) {
		t.Errorf("P8: Wanted changed %v to %v", was, got)
	}
}

// matterless has models whose questions all have few answers.
var matterless = [...]string{
	`ask a bool; ask b bool; ask c bool; let x bool = a and b or c; let y bool = if x then b else not c; let z bool = y = a;`,
	`ask a bool; ask b bool; ask c int; let x int = if a and b then c / c else 1; table y int first (a, x) : true, 1 = 2 : -, > 0 = c : false, - = x; let z bool = 1 < y or b;`,
	`ask a bool; ask b int; ask c int; table x bool first (b) : 0 = true : - = false; table y int sum (x, a) : true, true = c : -, false = b : false, - = 7; table z int count (y, a) : 0 / 7, - = c : -, true = b;`,
	`ask a int; ask b int; ask c of "x", "y"; table x int unique (a, c) : 0, "x" = b : 1, - = 5 / b : -, "y" = 3; table y int least (x, b) : not 3, - = a : -, 1 = x : 5, 0 = null; table z int most (c, y) : not "x", < 2 = y : "x", - = a : -, 1 = 9;`,
	`ask a bool; ask b bool; let w int = 1 / 0; let n int = null; table x int first (w, a) : 1, true = 1 : -, false = 2 : -, - = w; table y int unique (n, a, b) : 1, -, - = 1 : -, true, - = 2 : -, -, true = 3; let z bool = x = y and a or b;`,
}

// TestP9 goes through all answers, and all that are given to what is not wanted.
func TestP9(t *testing.T) {
	for _, text := range matterless {
		f := begun(t, text)
		var questions []int
		for n, item := range f.items {
			if item.Kind == tree.Ask {
				questions = append(questions, n)
			}
		}
		compared := 0
		through(f, questions, func() {
			for _, item := range f.items {
				compared += matterNot(t, f, item.Name)
			}
		})
		if compared < 50 {
			t.Errorf("P9: of %q only %d were compared", text, compared)
		}
	}
}

// through calls see with every way to answer the questions, or not to, and
// leaves the form with the answers that it had of them.
func through(f *Form, questions []int, see func()) {
	if len(questions) == 0 {
		see()
		return
	}
	name := f.items[questions[0]].Name
	was, _ := f.Value(name)
	for _, value := range []string{"null", "0", "1", "true", "false", `"x"`, `"y"`} {
		if value == "null" {
			f.Drop(name)
		} else if f.Set(name, value) != api.OK {
			continue
		}
		through(f, questions[1:], see)
	}
	f.Drop(name)
	f.Set(name, was)
}

// matterNot answers what an item does not want, and tells how often it did.
func matterNot(t *testing.T, f *Form, name string) int {
	t.Helper()
	wanted, _ := f.Wanted(name)
	was, _ := f.Value(name)
	var others []int
	for n, item := range f.items {
		if v, _ := f.Value(item.Name); item.Kind == tree.Ask && v == "null" && !slices.Contains(wanted, item.Name) {
			others = append(others, n)
		}
	}
	if len(others) == 0 {
		return 0
	}
	before, times := stands(f), 0
	through(f, others, func() {
		times++
		if got, _ := f.Value(name); got != was {
			t.Errorf("P9: of %q %s wants %v, and is %s at %q, but %s at %q", printed(f), name, wanted, was, before, got, stands(f))
		}
	})
	return times
}

// TestP9OfAllModels is of questions of all types.
func TestP9OfAllModels(t *testing.T) {
	for _, text := range slices.Concat(models[:], matterless[:]) {
		overlook(t, text)
	}
}

// overlook answers every other question of a model, and then all of what an
// item does not want.
func overlook(t *testing.T, text string) {
	t.Helper()
	m, errno, _ := Load(text)
	if errno != api.OK {
		return
	}
	values := []string{"0", "true", `"x"`, "-1", "false", `""`, "18", least, most}
	for _, value := range values {
		f := m.New()
		for n, item := range m.items {
			if n%2 == 1 {
				f.Set(item.Name, value)
			}
		}
		for _, item := range m.items {
			wanted, _ := f.Wanted(item.Name)
			was, _ := f.Value(item.Name)
			for _, value := range values {
				other := *f
				for _, question := range m.items {
					if v, _ := f.Value(question.Name); v == "null" && !slices.Contains(wanted, question.Name) {
						other.Set(question.Name, value)
					}
				}
				if got, _ := other.Value(item.Name); got != was {
					t.Errorf("P9: %s of %q wants %v, and is %s, but %s with %s", item.Name, text, wanted, was, got, value)
				}
			}
		}
	}
}
