package wicket

import (
	"slices"
	"strings"
	"testing"
	"unsafe"

	"wicket/api"
	"wicket/tree"
)

func begun(t *testing.T, text string) *Form {
	t.Helper()
	m, errno, place := Load(text)
	if errno != api.OK {
		t.Fatalf("P3: Load(%q) = %d, %d", text, errno, place)
	}
	f := m.New()
	if f == nil {
		t.Fatalf("P6: no form of %q", text)
	}
	return f
}

func comesTo(t *testing.T, f *Form, name, want string) {
	t.Helper()
	if got, errno := f.Value(name); got != want || errno != api.OK {
		t.Errorf("P6: Value(%s) of %q = %s, %d, want %s", name, printed(f), got, errno, want)
	}
}

func sets(t *testing.T, f *Form, question, value string, want api.Errno) {
	t.Helper()
	if errno := f.Set(question, value); errno != want {
		t.Errorf("P6: Set(%.20q, %.30q) = %d, want %d", question, value, errno, want)
	}
}

func drops(t *testing.T, f *Form, question string, want api.Errno) {
	t.Helper()
	if errno := f.Drop(question); errno != want {
		t.Errorf("P6: Drop(%.20q) = %d, want %d", question, errno, want)
	}
}

func printed(f *Form) string { return (&Model{f.items}).Print() }

// state is all that a form tells, but for what it is refused.
func state(f *Form) []string { return append(stands(f), f.Last()...) }

// stands is what a form tells of its items.
func stands(f *Form) []string {
	var told []string
	for _, item := range f.items {
		v, _ := f.Value(item.Name)
		wanted, _ := f.Wanted(item.Name)
		told = append(told, v, strings.Join(wanted, " "))
	}
	return told
}

// lacking has, of ints and bools, a question that is not answered (n and m)
// and a decision that is wrong (w and e).
const lacking = `ask n int; ask m bool; let w int = 1 / 0; let e bool = w = 1; `

func letComesTo(t *testing.T, kind, expr, want string) {
	t.Helper()
	comesTo(t, begun(t, lacking+"let x "+kind+" = "+expr+";"), "x", want)
}

func TestP6Numbers(t *testing.T) {
	for expr, want := range map[string]string{
		"6 + 4": "10", "6 - 4": "2", "4 - 6": "-2", "6 * 4": "24", "-6 * 4": "-24", "7 / 2": "3", "-7 / 2": "-3", "7 / -2": "-3", "-7 / -2": "3", "1 / 2": "0", "-1 / 2": "0", "-0": "0",
		"10 - 4 - 3": "3", "10 - (4 - 3)": "9", "100 / 10 / 5": "2", "100 / (10 / 5)": "50", "1 + 2 * 3": "7", "(1 + 2) * 3": "9", "2 * 3 + 1": "7", "7 - 6 / 2": "4", "2 - -3": "5", "2 * 9 / 4": "4", "9 / 4 * 2": "4",
		most: most, least: least, most + " + 0": most, least + " - 0": least,
		most + " + 1": "error", "1 + " + most: "error", least + " + -1": "error", least + " - 1": "error", most + " - -1": "error", "0 - " + least: "error", "-1 - " + least: most,
		least + " * -1": "error", "-1 * " + least: "error", most + " * -1": "-9223372036854775807", "3037000500 * 3037000500": "error", "3037000499 * 3037000499": "9223372030926249001", "4294967296 * -2147483648": least, "4294967296 * 2147483648": "error",
		least + " / -1": "error", least + " / 1": least, most + " / -1": "-9223372036854775807", "1 / 0": "error", "0 / 0": "error", least + " / 0": "error", "n / 0": "null", "null / 0": "null", "0 / n": "null",
		// There is no room on the way, even where there would be at the end.
		most + " + 1 - 1": "error", "-1 + (" + most + " + 1)": "error",
	} {
		letComesTo(t, "int", expr, want)
	}
}

func TestP6Comparisons(t *testing.T) {
	for expr, want := range map[string]string{
		"1 < 2": "true", "2 < 2": "false", "3 < 2": "false", "-1 < 0": "true", least + " < " + most: "true", most + " < " + least: "false",
		"2 = 2": "true", "2 = 3": "false", "0 = -0": "true", "true = true": "true", "false = false": "true", "true = false": "false", "1 + 1 = 2": "true",
		"not 1 = 2": "true", "1 = 1 and 2 = 2": "true", "(1 < 2) = (3 < 4)": "true", "n = n": "null", "m = m": "null", "w = w": "error", "e = e": "error",
	} {
		letComesTo(t, "bool", expr, want)
	}
	for expr, want := range map[string]string{
		`c = "x"`: "true", `c = "y"`: "false", `"x" = c`: "true", "c = d": "true", `c = (if true then "y" else d)`: "false", "c = q": "null", "q = q": "null", "c = null": "null",
	} {
		f := begun(t, `ask q of "x", "y"; let c of "x", "y" = "x"; let d of "x", "y" = if true then "x" else "y"; let x bool = `+expr+";")
		comesTo(t, f, "x", want)
	}
}

// TestP6Lacks: of what needs both sides, wrong goes ahead of nothing.
func TestP6Lacks(t *testing.T) {
	for operator, kind := range map[string]string{"+": "int", "-": "int", "*": "int", "/": "int", "<": "bool", "=": "bool"} {
		for _, sides := range [][3]string{
			{"5", "n", "null"}, {"n", "5", "null"}, {"n", "n", "null"}, {"n", "null", "null"}, {"null", "n", "null"}, {"5", "null", "null"}, {"null", "5", "null"}, {"0", "n", "null"}, {"n", "0", "null"},
			{"5", "w", "error"}, {"w", "5", "error"}, {"w", "w", "error"}, {"0", "w", "error"}, {"w", "0", "error"}, {"1 / 0", "5", "error"}, {"5", "(1 / 0)", "error"},
			{"n", "w", "error"}, {"w", "n", "error"}, {"null", "w", "error"}, {"w", "null", "error"}, {"null", "(1 / 0)", "error"},
		} {
			letComesTo(t, kind, sides[0]+" "+operator+" "+sides[1], sides[2])
		}
	}
}

func TestP6Bools(t *testing.T) {
	sides := []struct{ is, written string }{{"true", "true"}, {"false", "false"}, {"null", "null"}, {"null", "m"}, {"error", "e"}, {"error", "1 / 0 = 1"}}
	and := map[string]string{
		"true true": "true", "true false": "false", "true null": "null", "true error": "error",
		"false true": "false", "false false": "false", "false null": "false", "false error": "false",
		"null true": "null", "null false": "false", "null null": "null", "null error": "error",
		"error true": "error", "error false": "false", "error null": "error", "error error": "error",
	}
	or := map[string]string{
		"true true": "true", "true false": "true", "true null": "true", "true error": "true",
		"false true": "true", "false false": "false", "false null": "null", "false error": "error",
		"null true": "true", "null false": "null", "null null": "null", "null error": "error",
		"error true": "true", "error false": "error", "error null": "error", "error error": "error",
	}
	not := map[string]string{"true": "false", "false": "true", "null": "null", "error": "error"}
	for _, left := range sides {
		letComesTo(t, "bool", "not "+left.written, not[left.is])
		letComesTo(t, "bool", "not not "+left.written, left.is)
		for _, right := range sides {
			letComesTo(t, "bool", left.written+" and "+right.written, and[left.is+" "+right.is])
			letComesTo(t, "bool", left.written+" or "+right.written, or[left.is+" "+right.is])
		}
	}
	for expr, want := range map[string]string{
		"true or false and false": "true", "(true or false) and false": "false", "not false and false": "false", "not (false and false)": "true", "false or m or true": "true", "true and e and false": "false",
	} {
		letComesTo(t, "bool", expr, want)
	}
}

func TestP6If(t *testing.T) {
	for expr, want := range map[string]string{
		"if true then 3 else 4": "3", "if false then 3 else 4": "4", "if null then 3 else 4": "null", "if m then 3 else 4": "null", "if e then 3 else 4": "error", "if m then 3 else 3": "null", "if n < 1 then 3 else 4": "null", "if 1 / 0 < 1 then 3 else 4": "error",
		"if true then w else 4": "error", "if true then 3 else w": "3", "if false then w else 4": "4", "if false then 3 else w": "error", "if true then n else 4": "null", "if true then 3 else n": "3", "if false then null else 4": "4", "if m then w else w": "null", "if e then n else n": "error",
		"if true then if false then 1 else 2 else 3": "2", "if false then 1 else if false then 2 else 3": "3", "if true then 1 else 2 + 3": "1", "if false then 1 else 2 + 3": "5", "(if true then 1 else 2) + 3": "4", "if true and m then 1 else 2": "null", "if m and false then 1 else 2": "2",
	} {
		letComesTo(t, "int", expr, want)
	}
	comesTo(t, begun(t, `let x of "a", "b" = if 1 < 2 then "b" else "a";`), "x", `"b"`)
	comesTo(t, begun(t, `let x bool = if false then true else false;`), "x", "false")
}

// ruled is a table of the policy over the columns o, which is 1, v, which has
// no answer, and w, which is wrong. A rule is a letter and an output: m
// matches, o is out, n is out by a column that is nothing, b is broken, x is
// out though a column is wrong too.
func ruled(policy, of, rules string) string {
	cells := map[byte]string{'m': "1, -, -", 'o': "2, -, -", 'n': "-, not 1, -", 'b': "1, -, 1", 'x': "2, -, 1"}
	text := "let o int = 1; ask v int; let w int = 1 / 0; table t " + of + " " + policy + " (o, v, w)"
	for rule := range strings.SplitSeq(rules, " ") {
		output := rule[1:]
		switch output {
		case "N":
			output = "v" // nothing, and of a type by itself
		case "E":
			output = "1 / 0"
		}
		text += " : " + cells[rule[0]] + " = " + output
	}
	return text + ";"
}

func TestP6Policies(t *testing.T) {
	for _, c := range []struct{ policy, rules, want string }{
		{"unique", "m5", "5"}, {"unique", "o5", "null"}, {"unique", "n5", "null"}, {"unique", "b5", "error"}, {"unique", "x5", "null"}, {"unique", "mN", "null"}, {"unique", "mE", "error"}, {"unique", "oE", "null"},
		{"unique", "o1 m5 n2", "5"}, {"unique", "m5 m5", "error"}, {"unique", "mN mN", "error"}, {"unique", "m5 mN", "error"}, {"unique", "m5 b6", "error"}, {"unique", "b6 m5", "error"}, {"unique", "x6 m5 oE", "5"}, {"unique", "m5 m6 m7", "error"}, {"unique", "o5 n6", "null"},

		{"first", "m5", "5"}, {"first", "o5", "null"}, {"first", "n5", "null"}, {"first", "b5", "error"}, {"first", "x5", "null"}, {"first", "mN", "null"}, {"first", "mE", "error"},
		{"first", "m5 m6", "5"}, {"first", "m5 b6", "5"}, {"first", "b5 m6", "error"}, {"first", "o5 m6 m7", "6"}, {"first", "x5 m6 b7", "6"}, {"first", "x5 b6 m7", "error"}, {"first", "mN m6", "null"}, {"first", "mE m6", "error"}, {"first", "m6 mE", "6"}, {"first", "o1 n2 x3", "null"},

		{"count", "m5", "1"}, {"count", "o5", "0"}, {"count", "n5", "0"}, {"count", "b5", "error"}, {"count", "x5", "0"}, {"count", "mN", "1"}, {"count", "mE", "1"}, {"count", "m5 m5 o5 mE mN mtrue", "5"}, {"count", "m5 b5", "error"}, {"count", "b5 m5", "error"}, {"count", "x1 m2 n3 m4", "2"},

		{"sum", "m5", "5"}, {"sum", "o5", "0"}, {"sum", "n5 x5", "0"}, {"sum", "b5", "error"}, {"sum", "mN", "0"}, {"sum", "mE", "error"}, {"sum", "m5 m-7 m10", "8"}, {"sum", "m5 mN m6", "11"}, {"sum", "m5 o100 n100 x100 m6", "11"}, {"sum", "m5 mE", "error"}, {"sum", "mN mE", "error"}, {"sum", "m5 oE", "5"}, {"sum", "m5 b6", "error"}, {"sum", "b6 m5", "error"},
		{"sum", "m" + most + " m1", "error"}, {"sum", "m" + least + " m-1", "error"}, {"sum", "m" + most + " m1 m-1", most}, {"sum", "m" + least + " m-1 m1", least}, {"sum", "m1 m" + most + " m-1", most}, {"sum", "m" + most + " m" + most + " m" + least + " m" + least, "-2"}, {"sum", "m" + most + " mN o1", most}, {"sum", "m" + most + " m1 m-1 m1", "error"},
		{"sum", strings.Repeat("m"+most+" ", 4) + strings.TrimSpace(strings.Repeat("m"+least+" ", 4)), "-4"}, {"sum", strings.TrimSpace(strings.Repeat("m"+most+" ", 8)), "error"}, {"sum", strings.TrimSpace(strings.Repeat("m"+least+" ", 8)), "error"}, {"sum", "m" + least + " m" + least, "error"},

		{"least", "m5", "5"}, {"least", "o5", "null"}, {"least", "n5 x5", "null"}, {"least", "b5", "error"}, {"least", "mN", "null"}, {"least", "mE", "error"}, {"least", "m5 m-7 m10", "-7"}, {"least", "m5 m7", "5"}, {"least", "m7 m5", "5"}, {"least", "m5 mN m6", "5"}, {"least", "mN m6", "6"}, {"least", "m5 o-100 n-100 x-100 m6", "5"}, {"least", "m5 mE", "error"}, {"least", "mN mE", "error"}, {"least", "m5 oE", "5"}, {"least", "m5 b6", "error"}, {"least", "b6 m5", "error"}, {"least", "m" + most + " m" + least, least}, {"least", "m" + most, most},

		{"most", "m5", "5"}, {"most", "o5", "null"}, {"most", "n5 x5", "null"}, {"most", "b5", "error"}, {"most", "mN", "null"}, {"most", "mE", "error"}, {"most", "m5 m-7 m10", "10"}, {"most", "m5 m7", "7"}, {"most", "m7 m5", "7"}, {"most", "m-5 mN m-6", "-5"}, {"most", "mN m-6", "-6"}, {"most", "m5 o100 n100 x100 m6", "6"}, {"most", "m5 mE", "error"}, {"most", "mN mE", "error"}, {"most", "m5 oE", "5"}, {"most", "m5 b6", "error"}, {"most", "b6 m5", "error"}, {"most", "m" + least + " m" + most, most}, {"most", "m" + least, least},
	} {
		comesTo(t, begun(t, ruled(c.policy, "int", c.rules)), "t", c.want)
	}
	for _, c := range []struct{ policy, of, rules, want string }{
		{"unique", `of "x", "y"`, `o"x" m"y"`, `"y"`}, {"unique", `of "x"`, `mnull`, "null"}, {"unique", `of "x"`, `m"x" m"x"`, "error"}, {"unique", "bool", "mfalse otrue", "false"}, {"unique", "bool", "bfalse", "error"},
		{"first", `of "x", "y"`, `o"x" m"y" m"x"`, `"y"`}, {"first", `of "x"`, `mnull m"x"`, "null"}, {"first", "bool", "mtrue mfalse", "true"}, {"first", "bool", "bfalse", "error"},
		{"sum", "int", "mnull m3", "3"}, {"least", "int", "mnull", "null"}, {"most", "int", "mnull m-3", "-3"}, {"count", "int", `mtrue mv=1`, "2"},
	} {
		comesTo(t, begun(t, ruled(c.policy, c.of, c.rules)), "t", c.want)
	}
}

// TestP6Cells: which rule is right at an answer.
func TestP6Cells(t *testing.T) {
	const text = `ask a int; ask p bool; ask c of "x", "y", "z"; ` +
		`table ti int first (a) : < -3 = 1 : [ -1 .. 1 ] = 2 : 5 / 7 = 3 : not < 9 / > 11 / 10 = 4 : > 9 = 5; ` +
		`table tp int first (p) : true = 1 : not true = 2 : - = 3; ` +
		`table tc int first (c) : "y" = 1 : not "x" / "y" = 2 : not "z" = 3 : - = 4;`
	f := begun(t, text)
	for _, c := range [][4]string{
		{"a", "-4", "ti", "1"}, {"a", least, "ti", "1"}, {"a", "-3", "ti", "null"}, {"a", "-2", "ti", "null"}, {"a", "-1", "ti", "2"}, {"a", "0", "ti", "2"}, {"a", "1", "ti", "2"}, {"a", "2", "ti", "null"},
		{"a", "5", "ti", "3"}, {"a", "6", "ti", "null"}, {"a", "7", "ti", "3"}, {"a", "8", "ti", "null"}, {"a", "9", "ti", "4"}, {"a", "10", "ti", "5"}, {"a", "11", "ti", "4"}, {"a", "12", "ti", "5"}, {"a", most, "ti", "5"},
		{"p", "true", "tp", "1"}, {"p", "false", "tp", "2"}, {"c", `"x"`, "tc", "3"}, {"c", `"y"`, "tc", "1"}, {"c", `"z"`, "tc", "2"},
	} {
		sets(t, f, c[0], c[1], api.OK)
		comesTo(t, f, c[2], c[3])
	}
	for _, question := range []string{"a", "p", "c"} {
		drops(t, f, question, api.OK)
	}
	comesTo(t, f, "ti", "null")
	comesTo(t, f, "tp", "3")
	comesTo(t, f, "tc", "4")
}

func TestP6Example(t *testing.T) {
	f := begun(t, price)
	comesTo(t, f, "price", "null")
	sets(t, f, "plan", `"gold"`, api.OK)
	comesTo(t, f, "price", "20")
	sets(t, f, "age", "5", api.OK)
	comesTo(t, f, "price", "20")
	sets(t, f, "plan", `"basic"`, api.OK)
	comesTo(t, f, "price", "5")
	sets(t, f, "plan", "gold", api.ErrValue)
	sets(t, f, "price", "1", api.ErrQuestion)
	comesTo(t, f, "plan", `"basic"`)
	sets(t, f, "age", "99", api.OK)
	comesTo(t, f, "price", "8")
	sets(t, f, "age", "100", api.OK)
	comesTo(t, f, "price", "null")
}

func TestP6Written(t *testing.T) {
	f := begun(t, `ask a int; ask p bool; ask c of "x", "", "é ;", "null", "7", "true"; ask d of "\n", "12345678", "  "; ask s of "x"; let l int = a;`)
	taken := map[string][]string{
		"a": {"0", "7", "-5", "10", "-10", most, least, "9223372036854775806", "-9223372036854775807"},
		"p": {"true", "false"},
		"c": {`"x"`, `""`, `"é ;"`, `"null"`, `"7"`, `"true"`},
		"d": {`"\n"`, `"12345678"`, `"  "`},
		"s": {`"x"`},
	}
	refused := []string{
		"", " ", "null", "error", "-0", "+0", "+1", "00", "01", "-01", " 1", "1 ", "- 5", "1\n", "1.0", "1.", "1e3", "1_000", "0x10", "0b1", "0o7", "1,000", "--1", "-", "+", "٣", "１",
		"9223372036854775808", "-9223372036854775809", "18446744073709551616", "99999999999999999999999", strings.Repeat("1", 100000), "0" + most,
		"True", "TRUE", "False", "t", "f", "T", "yes", "true ", " true", "truefalse", "tru", "1 = 1",
		`"`, `"x`, `x"`, "x", "'x'", "`x`", `"X"`, `"xx"`, `"x" `, ` "x"`, `""x""`, `"y"`, `"é ;`, "é ;", `"e ;"`, `" "`, `"1234567"`, `"123456789"`, "\"\n\"", `"\"`, `""""`, "\"\xff\"", "\xff", "\x00", "a", "c", "l", `"null`, `"false"`, `"0"`,
		`"x", ""`, "(1)", "1;", strings.Repeat(`"`, 100000),
	}
	all := slices.Clone(refused)
	for _, values := range taken {
		all = append(all, values...)
	}
	for question, values := range taken {
		for _, value := range all {
			was, _ := f.Value(question)
			if slices.Contains(values, value) {
				sets(t, f, question, value, api.OK)
				comesTo(t, f, question, value)
				continue
			}
			sets(t, f, question, value, api.ErrValue)
			comesTo(t, f, question, was)
		}
	}
}

// TestP6NoSuch: neither what is no item, nor, of Set and Drop, what is no question.
func TestP6NoSuch(t *testing.T) {
	f := begun(t, `ask a int; ask p bool; let l int = a; table t int sum (p) : true = a : - = l;`)
	sets(t, f, "a", "4", api.OK)
	sets(t, f, "p", "true", api.OK)
	was := state(f)
	nosuch := []string{"", " ", "z", "A", "aa", "a ", " a", "a;", "ask", "int", "null", "4", "a, p", "ap", "\xff", "\x00", strings.Repeat("a", 100000)}
	for _, name := range append(nosuch, "l", "t") {
		for _, value := range []string{"1", "true", "", "x", "null"} {
			sets(t, f, name, value, api.ErrQuestion)
		}
		drops(t, f, name, api.ErrQuestion)
		got, errno := f.Value(name)
		if isItem := name == "l" || name == "t"; (errno == api.OK) != isItem || !isItem && (errno != api.ErrName || got != "") {
			t.Errorf("P6: Value(%.20q) = %q, %d", name, got, errno)
		}
	}
	if got := state(f); !slices.Equal(got, was) {
		t.Errorf("P1: what was refused changed %v to %v", was, got)
	}
}

func TestP6AnsweredAgain(t *testing.T) {
	f := begun(t, `ask a int; ask c of "x", "y"; let b int = a * 2; let d bool = c = "y"; let e int = if d then b else 0 - b;`)
	for _, c := range []struct{ question, value, a, c, b, d, e string }{
		{"a", "3", "3", "null", "6", "null", "null"},
		{"c", `"y"`, "3", `"y"`, "6", "true", "6"},
		{"a", "3", "3", `"y"`, "6", "true", "6"},
		{"a", "-4", "-4", `"y"`, "-8", "true", "-8"},
		{"c", `"x"`, "-4", `"x"`, "-8", "false", "8"},
		{"a", "", "null", `"x"`, "null", "false", "null"},
		{"a", "", "null", `"x"`, "null", "false", "null"},
		{"a", most, most, `"x"`, "error", "false", "error"},
		{"c", "", most, "null", "error", "null", "null"},
		{"a", "0", "0", "null", "0", "null", "null"},
	} {
		if c.value == "" {
			drops(t, f, c.question, api.OK)
		} else {
			sets(t, f, c.question, c.value, api.OK)
		}
		for name, want := range map[string]string{"a": c.a, "c": c.c, "b": c.b, "d": c.d, "e": c.e} {
			comesTo(t, f, name, want)
		}
	}
}

// TestP6New: nothing is answered in a form that is new, whatever was in others.
func TestP6New(t *testing.T) {
	m, _, _ := Load(price)
	for range 3 {
		f := m.New()
		for name, want := range map[string]string{"plan": "null", "age": "null", "price": "null"} {
			comesTo(t, f, name, want)
		}
		sets(t, f, "plan", `"gold"`, api.OK)
		sets(t, f, "age", "1", api.OK)
	}
	f := begun(t, "let a int = 1; let b int = a + 1; table c int count (b) : 2 = b; let d of \"x\" = null;")
	for name, want := range map[string]string{"a": "1", "b": "2", "c": "1", "d": "null"} {
		comesTo(t, f, name, want)
	}
}

// TestP6Most has as many items as there may be, each hanging on the one ahead.
func TestP6Most(t *testing.T) {
	text, name := "ask a int;", "a"
	for n := 1; n < api.MaxItems; n++ {
		next := string(rune('a' + n))
		text += "let " + next + " int = " + name + " + 1;"
		name = next
	}
	f := begun(t, text)
	comesTo(t, f, "t", "null")
	sets(t, f, "a", "100", api.OK)
	comesTo(t, f, "t", "119")
	sets(t, f, "a", "9223372036854775789", api.OK)
	comesTo(t, f, "s", most)
	comesTo(t, f, "t", "error")
	drops(t, f, "a", api.OK)
	comesTo(t, f, "t", "null")
	long := begun(t, "ask a int; let b int=a"+strings.Repeat("+a", 480)+";")
	sets(t, long, "a", "2", api.OK)
	comesTo(t, long, "b", "962")
	not := begun(t, "ask p bool; let b bool="+strings.Repeat("not ", 240)+"p;")
	sets(t, not, "p", "true", api.OK)
	comesTo(t, not, "b", "true")
}

func TestP2FormsDoNotChangeOneAnother(t *testing.T) {
	m, _, _ := Load(price)
	text := m.Print()
	verdict, _ := m.Check("price")
	one, two := m.New(), m.New()
	sets(t, one, "plan", `"gold"`, api.OK)
	sets(t, two, "plan", `"basic"`, api.OK)
	sets(t, two, "age", "50", api.OK)
	for _, c := range []struct {
		f                *Form
		plan, age, price string
		wanted           []string
	}{{one, `"gold"`, "null", "20", nil}, {two, `"basic"`, "50", "8", nil}, {m.New(), "null", "null", "null", []string{"plan", "age"}}} {
		comesTo(t, c.f, "plan", c.plan)
		comesTo(t, c.f, "age", c.age)
		comesTo(t, c.f, "price", c.price)
		wants(t, c.f, "price", c.wanted...)
	}
	drops(t, two, "age", api.OK)
	sets(t, two, "age", "50", api.OK)
	drops(t, one, "age", api.OK)
	lasts(t, one)
	lasts(t, two, "price")
	copied := *two
	sets(t, &copied, "age", "1", api.OK)
	comesTo(t, &copied, "price", "5")
	comesTo(t, two, "price", "8")
	if again, _ := m.Check("price"); m.Print() != text || !same(again, verdict) {
		t.Error("P2: forms changed their model")
	}
}

// TestP2TextsAreNotKept writes into the bytes of texts that were handed in.
func TestP2TextsAreNotKept(t *testing.T) {
	bytes := []byte(`ask c of "x", "y"; let d of "x", "y" = c;c"y"`)
	text := unsafe.String(&bytes[0], len(bytes))
	f := begun(t, text[:len(text)-4])
	sets(t, f, text[len(text)-4:len(text)-3], text[len(text)-3:], api.OK)
	for n := range bytes {
		bytes[n] = '!'
	}
	comesTo(t, f, "c", `"y"`)
	comesTo(t, f, "d", `"y"`)
	lasts(t, f, "d")
	sets(t, f, "c", `"x"`, api.OK)
	comesTo(t, f, "d", `"x"`)
}

func TestP1NoForm(t *testing.T) {
	var none *Model
	for what, f := range map[string]*Form{"no form": nil, "a form of no model": none.New(), "an empty form": {}, "a form of an empty model": new(Model).New()} {
		for _, name := range []string{"", "a"} {
			got, errno := f.Value(name)
			if got != "" || errno != api.ErrName || f.Set(name, "1") != api.ErrQuestion || f.Drop(name) != api.ErrQuestion || len(f.Last()) != 0 {
				t.Errorf("P1: %s has an item %q", what, name)
			}
			if wanted, errno := f.Wanted(name); wanted != nil || errno != api.ErrName {
				t.Errorf("P1: of %s Wanted(%q) = %v, %d", what, name, wanted, errno)
			}
		}
	}
}

// TestP1FormsOfAllModels goes through each question of each model.
func TestP1FormsOfAllModels(t *testing.T) {
	for _, text := range models {
		refill(t, text)
	}
}

// refill looks that a form tells the same, whether it was filled in at once or
// with other answers in between, and when all is dropped the same as a new one.
func refill(t *testing.T, text string) {
	t.Helper()
	m, errno, _ := Load(text)
	if errno != api.OK {
		return
	}
	whole := m.Print()
	one, other := m.New(), m.New()
	fresh := stands(other)
	for _, value := range []string{"0", "true", `"x"`, "-1", "false", `""`, "18", least, most} {
		for _, item := range m.items {
			one.Set(item.Name, value)
		}
	}
	for _, item := range slices.Backward(m.items) {
		if item.Kind == tree.Ask {
			answer, _ := one.Value(item.Name)
			other.Set(item.Name, answer)
		}
	}
	if filled, again := stands(one), stands(other); !slices.Equal(filled, again) {
		t.Errorf("P6, P8: of %q: %q, and %q", text, filled, again)
	}
	for _, item := range m.items {
		one.Drop(item.Name)
	}
	if empty := stands(one); !slices.Equal(empty, fresh) {
		t.Errorf("P6, P8: of %q: %q, and new %q", text, empty, fresh)
	}
	if m.Print() != whole {
		t.Errorf("P2: a form changed its model %q", text)
	}
}
