package typing

import (
	"testing"

	"wicket/api"
	"wicket/parse"
)

// questions stand ahead of each case: it is the item of the number 5.
const questions = `ask a int; ask p bool; ask c of "x", "y"; ask d of "x"; ask e of "y", "x"; `

// tell looks at one item behind the questions.
func tell(t *testing.T, item string, fits bool) {
	t.Helper()
	items, errno, place := parse.Items(questions + item)
	if errno != api.OK {
		t.Fatalf("%q: %d at %d", item, errno, place)
	}
	want := -1
	if !fits {
		want = 5
	}
	if got := FirstFault(items); got != want {
		t.Errorf("P3: %q: first fault %d, want %d", item, got, want)
	}
}

func TestWhatFits(t *testing.T) {
	for _, item := range []string{
		`ask z bool;`,
		`let z int = a + 1 - 2 * 3 / a;`, `let z int = -9223372036854775808;`,
		`let z bool = a < 1;`, `let z bool = p and not p or true;`, `let z bool = a = 1 and p = false;`,
		`let z int = null;`, `let z bool = null;`, `let z of "q" = null;`,
		`let z int = null + a * null;`, `let z bool = not null or null;`, `let z bool = null < null;`,
		`let z of "x", "y" = c;`, `let z of "x", "q" = ("q");`,
		`let z bool = c = "y";`, `let z bool = "y" = c;`, `let z bool = (("x")) = d;`, `let z bool = c = c;`,
		`let z bool = (c = "x") = (d = "x");`, `let z bool = null = 1;`, `let z bool = (a) = null;`,
		`let z int = if p then 1 else a;`, `let z of "x" = if p then "x" else d;`, `let z bool = if p then p else null;`,
		`let z int = if null then null else null;`, `let z of "r" = if p then "r" else if p then null else "r";`,
		`let z bool = (if p then null else a) = 1;`, `let z bool = (if p then "y" else c) = "x";`,
		`let z bool = "y" = (if p then null else if p then "x" else e);`, `let z bool = (if p then null else "x") = c;`,
		`let z bool = (if p then null else null) = a;`,
	} {
		tell(t, item, true)
	}
}

func TestWhatDoesNotFit(t *testing.T) {
	for _, item := range []string{
		`let z int = p;`, `let z bool = a;`, `let z bool = c;`, `let z int = c;`, `let z of "x" = a;`, `let z of "x" = p;`,
		`let z int = true;`, `let z bool = 0;`, `let z int = "x";`, `let z of "x" = "y";`, `let z of "x" = 1;`,
		`let z of "y", "x" = c;`, `let z of "x" = c;`, `let z of "x", "y", "z" = c;`,
		`let z int = a + p;`, `let z int = p - a;`, `let z int = a * "x";`, `let z int = c / 1;`, `let z bool = a + 1;`,
		`let z int = a < 1;`, `let z bool = p < 1;`, `let z bool = 1 < p;`, `let z bool = c < c;`,
		`let z bool = a and p;`, `let z bool = p or a;`, `let z bool = not a;`, `let z int = not p;`, `let z int = p and p;`,
		`let z int = a = a;`, `let z bool = a = p;`, `let z bool = p = a;`, `let z bool = c = d;`, `let z bool = c = e;`, `let z bool = c = 1;`,
		`let z bool = d = "y";`, `let z bool = "y" = d;`, `let z bool = a = "x";`,
		`let z bool = "x" = "x";`, `let z bool = null = null;`, `let z bool = ("x") = (null);`,
		`let z bool = (if p then null else "x") = "x";`, `let z bool = (if p then null else null) = (if p then "x" else "y");`,
		`let z int = if a then 1 else 2;`, `let z int = if p then 1 else p;`, `let z int = if p then p else 1;`, `let z bool = if p then 1 else 2;`,
		`let z int = if "x" then 1 else 2;`, `let z int = if p then 1 else "x";`,
		`let z bool = (if p then 1 else p) = 1;`, `let z bool = (if a then 1 else 2) = 1;`, `let z bool = (if p then "z" else c) = "x";`,
		`let z bool = (if p then c else d) = "x";`, `let z bool = p and (a + p) = 1;`,
	} {
		tell(t, item, false)
	}
}

func TestTables(t *testing.T) {
	for item, fits := range map[string]bool{
		`table z bool unique (a) : 1 = p;`: true, `table z bool unique (a) : 1 = a;`: false,
		`table z of "q" first (a) : 1 = "q";`: true, `table z of "q" first (a) : 1 = "x";`: false,
		`table z int first (a) : 1 = 1 : 2 = p;`: false, `table z int first (a) : - = null;`: true,
		`table z int sum (a) : - = a;`: true, `table z int sum (a) : - = p;`: false, `table z bool sum (a) : - = p;`: false,
		`table z int least (a) : - = null;`: true, `table z int least (a) : - = p;`: false, `table z bool least (a) : - = p;`: false,
		`table z int most (a) : - = 1;`: true, `table z int most (a) : - = c;`: false, `table z of "x" most (a) : - = d;`: false,
		`table z int count (a) : - = a : - = p : - = c;`: true, `table z bool count (a) : - = p;`: false, `table z of "x" count (a) : - = 1;`: false,
		`table z int count (a) : - = null;`: false, `table z int count (a) : - = "x";`: false, `table z int count (a) : - = (("x"));`: false,
		`table z int count (a) : - = if p then null else "x";`: false, `table z int count (a) : - = if p then null else c;`: true,
		`table z int count (a) : - = if p then "z" else c;`: false, `table z int count (a) : - = a and p;`: false, `table z int count (a) : - = c = "x";`: true,
		`table z int count (a) : - = "x" = "x";`: false, `table z int count (a) : - = p : - = null;`: false,
	} {
		tell(t, item, fits)
	}
}

func TestCells(t *testing.T) {
	for cell, fits := range map[[2]string]bool{
		{"a", "-"}: true, {"a", "1/-2"}: true, {"a", "< 1/> 2/[ 1 .. 2 ]"}: true, {"a", "[ 2 .. 1 ]"}: true, {"a", "not -9223372036854775808"}: true,
		{"a", "true"}: false, {"a", `"x"`}: false, {"a", "< true"}: false, {"a", "1/2/3/true"}: false, {"a", "not true"}: false,
		{"a", "[ 1 .. true ]"}: false, {"a", "[ true .. 1 ]"}: false, {"a", `> "x"`}: false,
		{"p", "-"}: true, {"p", "true/false"}: true, {"p", "not false"}: true,
		{"p", "1"}: false, {"p", `"x"`}: false, {"p", "< true"}: false, {"p", "> 1"}: false, {"p", "[ true .. false ]"}: false, {"p", "[ 1 .. 2 ]"}: false,
		{"c", "-"}: true, {"c", `"x"/"y"`}: true, {"c", `not "y"`}: true,
		{"c", `"z"`}: false, {"c", `"x"/"z"`}: false, {"c", "1"}: false, {"c", "true"}: false, {"c", `< "x"`}: false, {"c", `> "x"`}: false, {"c", `[ "x" .. "y" ]`}: false,
		{"d", `"y"`}: false,
	} {
		tell(t, "table z int first ("+cell[0]+") : - = 1 : "+cell[1]+" = 1;", fits)
	}
	tell(t, `table z int first (a, c, p) : 1, "x", true = 1;`, true)
	tell(t, `table z int first (a, c, p) : "x", 1, true = 1;`, false)
	tell(t, `table z int first (a, c, p) : -, -, 1 = 1;`, false)
}

func TestTheFirstFaultIsTold(t *testing.T) {
	items, _, _ := parse.Items("ask a int; let b int = a; let c bool = b; let d bool = 1; let e bool = c;")
	if got := FirstFault(items); got != 2 {
		t.Errorf("P3: first fault %d, want 2", got)
	}
	items, _, _ = parse.Items("ask a int; table t bool first (a) : 1 = true; table u int first (t) : true = 1; let z int = u; let y bool = u;")
	if got := FirstFault(items); got != 4 {
		t.Errorf("P3: first fault %d, want 4", got)
	}
	if got := FirstFault(nil); got != -1 {
		t.Errorf("P3: first fault %d, want -1", got)
	}
}
