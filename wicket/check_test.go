package wicket

import (
	"math"
	"math/rand"
	"slices"
	"strconv"
	"strings"
	"testing"

	"wicket/api"
	"wicket/tree"
)

const (
	least = "-9223372036854775808"
	most  = "9223372036854775807"
)

// asked are the items ahead of the tables of these tests.
const asked = `ask a int; ask b int; ask c int; ask p bool; ask q bool; ask w of "x", "y", "z"; ` +
	`let l int = a; let m bool = p; table s int first (a) : - = 1; `

// checked is the verdict on a table of the columns, parted by `,`, and the
// rules, parted by `:`, without outputs.
func checked(t *testing.T, policy, columns, rules string) api.Verdict {
	t.Helper()
	text := asked + "table t int " + policy + " (" + columns + ") : " + strings.ReplaceAll(rules, ":", "= 1 :") + " = 1;"
	m, errno, place := Load(text)
	if errno != api.OK {
		t.Fatalf("P3: Load(%q) = %d, %d", text, errno, place)
	}
	verdict, errno := m.Check("t")
	if errno != api.OK {
		t.Fatalf("P5: Check of (%s) %s: %d", columns, rules, errno)
	}
	shows(t, columns, rules, verdict)
	return verdict
}

// shows looks that a verdict tells what it must, no more, and truly.
func shows(t *testing.T, columns, rules string, verdict api.Verdict) {
	t.Helper()
	names := strings.Split(columns, ",")
	matching := func() []int { return matchingAt(strings.Split(rules, ":"), verdict.Answers) }
	ok := false
	switch verdict.What {
	case api.Sound, api.Unknown:
		ok = len(verdict.Answers) == 0 && verdict.One == 0 && verdict.Two == 0
	case api.Gap:
		ok = areAnswers(names, verdict.Answers) && verdict.One == 0 && verdict.Two == 0 && len(matching()) == 0
	case api.Overlap:
		ok = areAnswers(names, verdict.Answers) && verdict.One < verdict.Two &&
			slices.Contains(matching(), verdict.One) && slices.Contains(matching(), verdict.Two)
	}
	if !ok {
		t.Errorf("P5: Check of (%s) %s = %+v", columns, rules, verdict)
	}
}

func areAnswers(columns, answers []string) bool {
	if len(columns) != len(answers) {
		return false
	}
	for n, column := range columns {
		switch answer := answers[n]; strings.TrimSpace(column) {
		case "p", "q":
			if answer != "true" && answer != "false" {
				return false
			}
		case "w":
			if answer != `"x"` && answer != `"y"` && answer != `"z"` {
				return false
			}
		default:
			if number, err := strconv.ParseInt(answer, 10, 64); err != nil || strconv.FormatInt(number, 10) != answer {
				return false
			}
		}
	}
	return true
}

// matchingAt is a judge that knows of tables only what is written.
func matchingAt(rules, answers []string) []int {
	var matching []int
	for n, rule := range rules {
		matches := true
		for column, cell := range strings.Split(rule, ",") {
			matches = matches && cellRight(cell, answers[column])
		}
		if matches {
			matching = append(matching, n)
		}
	}
	return matching
}

func cellRight(cell, answer string) bool {
	cell = strings.ReplaceAll(cell, " ", "")
	if cell == "-" {
		return true
	}
	tests, not := strings.CutPrefix(cell, "not")
	for test := range strings.SplitSeq(tests, "/") {
		if testRight(test, answer) {
			return !not
		}
	}
	return not
}

func testRight(test, answer string) bool {
	number := func(text string) int64 {
		n, err := strconv.ParseInt(text, 10, 64)
		if err != nil {
			panic(text)
		}
		return n
	}
	switch test[0] {
	case '<':
		return number(answer) < number(test[1:])
	case '>':
		return number(answer) > number(test[1:])
	case '[':
		lower, upper, _ := strings.Cut(test[1:len(test)-1], "..")
		return number(lower) <= number(answer) && number(answer) <= number(upper)
	}
	return test == answer
}

func TestP5Verdicts(t *testing.T) {
	for _, c := range []struct {
		columns, rules string
		what           int
	}{
		{"a", "-", api.Sound}, {"p", "-", api.Sound}, {"w", "-", api.Sound}, {"a, p, w", "-, -, -", api.Sound},
		{"a", "- : -", api.Overlap}, {"a, p, w", "-, -, - : -, -, -", api.Overlap},
		// ints
		{"a", "< 5", api.Gap}, {"a", "> 5", api.Gap}, {"a", "5", api.Gap}, {"a", "[ 1 .. 5 ]", api.Gap},
		{"a", "not < 5", api.Gap}, {"a", "not > 5", api.Gap}, {"a", "not 5", api.Gap}, {"a", "not [ 1 .. 5 ]", api.Gap},
		{"a", "< 5 : not < 5", api.Sound}, {"a", "> 5 : not > 5", api.Sound}, {"a", "5 : not 5", api.Sound}, {"a", "[ 1 .. 5 ] : not [ 1 .. 5 ]", api.Sound},
		{"a", "< 5 : > 4", api.Sound}, {"a", "< 5 : > 5", api.Gap}, {"a", "< 5 : > 3", api.Overlap}, {"a", "< 5 / > 4", api.Sound}, {"a", "< 5 / > 3", api.Sound},
		{"a", "< 5 : 5 : > 5", api.Sound}, {"a", "< 5 : 5 : > 6", api.Gap}, {"a", "< 5 : 5 : > 4", api.Overlap}, {"a", "< 5 : 4 : > 4", api.Overlap},
		{"a", "< 1 : [ 1 .. 9 ] : > 9", api.Sound}, {"a", "< 1 : [ 2 .. 9 ] : > 9", api.Gap}, {"a", "< 1 : [ 1 .. 8 ] : > 9", api.Gap},
		{"a", "< 1 : [ 0 .. 9 ] : > 9", api.Overlap}, {"a", "< 1 : [ 1 .. 10 ] : > 9", api.Overlap},
		{"a", "1 : 1", api.Overlap}, {"a", "1 / 1 / 1 / 1 : not 1 / 1 / 1 / 1", api.Sound}, {"a", "1 / 2 : 3 / 2", api.Overlap}, {"a", "1 / 2 : 3 / 4 : not [ 1 .. 4 ]", api.Sound},
		{"a", "not 1 / 2 : 1 : 2", api.Sound}, {"a", "not 1 / 2 : 1", api.Gap}, {"a", "not 1 / 2 : 1 : 2 / 3", api.Overlap}, {"a", "not 1 : not 2", api.Overlap},
		{"a", "< 0 / [ 3 .. 5 ] / 7 / > 9 : not < 0 / [ 3 .. 5 ] / 7 / > 9", api.Sound}, {"a", "< 0 / [ 3 .. 5 ] / 7 / > 9 : [ 0 .. 2 ] / 6 / 8", api.Gap},
		{"a", "-0 : not 0", api.Sound}, {"a", "< -5 : -5 : > -5", api.Sound}, {"a", "< -5 : > -5", api.Gap},
		// bools
		{"p", "true", api.Gap}, {"p", "false", api.Gap}, {"p", "not true", api.Gap}, {"p", "true : false", api.Sound}, {"p", "true / false", api.Sound},
		{"p", "true : not true", api.Sound}, {"p", "true : not false", api.Overlap}, {"p", "not true / false", api.Gap}, {"p", "not true / false : -", api.Sound}, {"p", "false : -", api.Overlap},
		// words
		{"w", `"x"`, api.Gap}, {"w", `"x" / "y" / "z"`, api.Sound}, {"w", `not "x" / "y" / "z"`, api.Gap}, {"w", `"x" : "y" : "z"`, api.Sound}, {"w", `"x" : "z"`, api.Gap},
		{"w", `not "y" : "y"`, api.Sound}, {"w", `not "y" : "x"`, api.Overlap}, {"w", `not "y" : not "z"`, api.Overlap}, {"w", `not "x" / "y" : not "y" / "z" : "y"`, api.Sound},
		// several columns
		{"a, b", "< 1, - : > 0, < 1 : > 0, > 0", api.Sound}, {"a, b", "< 1, - : > 0, < 1 : > 0, > 1", api.Gap}, {"a, b", "< 1, - : > 0, < 1 : -, > 0", api.Overlap},
		{"a, b", "1, 2 : 2, 1", api.Gap}, {"a, b", "1, 2 : 2, 2 : 1, 1", api.Gap}, {"a, b", "1, - : -, 2", api.Overlap}, {"b, a", "1, - : not 1, 2 : not 1, not 2", api.Sound},
		{"p, q", "true, true : true, false : false, true : false, false", api.Sound}, {"p, q", "true, true : true, false : false, true", api.Gap}, {"p, q", "true, - : -, true", api.Overlap},
		{"w, p", `"x", - : not "x", true : "y" / "z", false`, api.Sound}, {"w, p", `"x", - : not "x", true : "y", false`, api.Gap}, {"p, w", `-, "x" : true, "x" / "y"`, api.Overlap},
		{"p, a, w", `true, -, - : false, < 0, - : false, > -1, "x" : false, not < 0, not "x"`, api.Sound},
		{"p, a, w", `true, -, - : false, < 0, - : false, > -1, "x" : false, not < 0, "y"`, api.Gap},
		{"p, a, w", `true, -, - : false, < 0, - : false, > -2, "x" : false, not < 0, not "x"`, api.Overlap},
		{"a, b, c", "1, 2, 3 : 3, 2, 1 : 2, 2, 2", api.Gap}, {"a, b, c", "-, -, 1 : -, 1, - : 1, -, -", api.Overlap},
		// An overlap is told ahead of a gap.
		{"a", "5 : 5", api.Overlap}, {"w", `"z" : "z"`, api.Overlap}, {"a, p", "7, true : > 5, true", api.Overlap},
	} {
		for _, policy := range []string{"unique", "first", "sum", "count", "least", "most"} {
			if verdict := checked(t, policy, c.columns, c.rules); verdict.What != c.what {
				t.Errorf("P5: Check of %s (%s) %s = %+v, want %d", policy, c.columns, c.rules, verdict, c.what)
			}
		}
	}
}

func TestP5Unknown(t *testing.T) {
	for _, c := range [][2]string{
		{"l", "-"}, {"l", "1"}, {"m", "true : false"}, {"s", "< 5"}, {"s", "- : -"},
		{"l, a", "-, - : -, -"}, {"a, l", "1, -"}, {"a, p, m", "-, -, -"}, {"a, s, p", "-, -, - : 1, 1, true"},
	} {
		if verdict := checked(t, "unique", c[0], c[1]); verdict.What != api.Unknown {
			t.Errorf("P5: Check of (%s) %s = %+v", c[0], c[1], verdict)
		}
	}
}

// TestP5Edges has tables for which there is one verdict alone.
func TestP5Edges(t *testing.T) {
	for _, c := range []struct {
		columns, rules string
		want           api.Verdict
	}{
		// both ends of the ints
		{"a", "> " + least, api.Verdict{What: api.Gap, Answers: []string{least}}},
		{"a", "< " + most, api.Verdict{What: api.Gap, Answers: []string{most}}},
		{"a", "not " + least, api.Verdict{What: api.Gap, Answers: []string{least}}},
		{"a", "not " + most, api.Verdict{What: api.Gap, Answers: []string{most}}},
		{"a", least + " : > " + least, api.Verdict{What: api.Sound}},
		{"a", most + " : < " + most, api.Verdict{What: api.Sound}},
		{"a", most + " : -", api.Verdict{What: api.Overlap, Answers: []string{most}, One: 0, Two: 1}},
		{"a", "- : " + least, api.Verdict{What: api.Overlap, Answers: []string{least}, One: 0, Two: 1}},
		{"a", "< " + least + " : -", api.Verdict{What: api.Sound}},
		{"a", "- : > " + most, api.Verdict{What: api.Sound}},
		{"a", "not < " + least, api.Verdict{What: api.Sound}},
		{"a", "not > " + most, api.Verdict{What: api.Sound}},
		{"a", "[ " + least + " .. " + most + " ]", api.Verdict{What: api.Sound}},
		{"a", "[ -9223372036854775807 .. " + most + " ]", api.Verdict{What: api.Gap, Answers: []string{least}}},
		{"a", "[ " + least + " .. 9223372036854775806 ]", api.Verdict{What: api.Gap, Answers: []string{most}}},
		{"a", "< -9223372036854775807 : > 9223372036854775806 : [ -9223372036854775807 .. 9223372036854775806 ]", api.Verdict{What: api.Sound}},
		{"a", "not [ " + least + " .. -1 ] / [ 1 .. " + most + " ] : not 0 : 0", api.Verdict{What: api.Overlap, Answers: []string{"0"}, One: 0, Two: 2}},
		{"a, b", "not " + most + ", - : " + most + ", not " + least, api.Verdict{What: api.Gap, Answers: []string{most, least}}},
		// ranges whose ends are one number, or stand the wrong way round
		{"a", "not [ 3 .. 3 ]", api.Verdict{What: api.Gap, Answers: []string{"3"}}},
		{"a", "[ 3 .. 3 ] : -", api.Verdict{What: api.Overlap, Answers: []string{"3"}, One: 0, Two: 1}},
		{"a", "[ 3 .. 3 ] : not 3", api.Verdict{What: api.Sound}},
		{"a", "[ 4 .. 3 ] : -", api.Verdict{What: api.Sound}},
		{"a", "[ 5 .. 3 ] : -", api.Verdict{What: api.Sound}},
		{"a", "not [ 5 .. 3 ]", api.Verdict{What: api.Sound}},
		{"a", "not [ 5 .. 3 ] / 4", api.Verdict{What: api.Gap, Answers: []string{"4"}}},
		{"a", "[ " + most + " .. " + least + " ] : -", api.Verdict{What: api.Sound}},
		{"a", "not [ " + most + " .. " + least + " ]", api.Verdict{What: api.Sound}},
		{"a", "[ " + least + " .. " + least + " ] : [ " + most + " .. " + most + " ] : not " + least + " / 0 / " + most, api.Verdict{What: api.Gap, Answers: []string{"0"}}},
		// the rules, the smaller one first, wherever they stand
		{"a", "< 1 : > 1 : 1 : [ 2 .. 1 ] : [ 1 .. 1 ]", api.Verdict{What: api.Overlap, Answers: []string{"1"}, One: 2, Two: 4}},
		{"w", `"y" : "z" : "x" : "x"`, api.Verdict{What: api.Overlap, Answers: []string{`"x"`}, One: 2, Two: 3}},
		// the answers, in the order of the columns
		{"w, a, p", `not "y", -, - : "y", not -7, - : "y", -7, false`, api.Verdict{What: api.Gap, Answers: []string{`"y"`, "-7", "true"}}},
		{"p, w, a", `-, not "y", - : -, "y", not -7 : false, "y", -7`, api.Verdict{What: api.Gap, Answers: []string{"true", `"y"`, "-7"}}},
		{"a, p, w", `-, -, not "y" : not -7, -, "y" : -7, -, "y" : -7, true, "y"`, api.Verdict{What: api.Overlap, Answers: []string{"-7", "true", `"y"`}, One: 2, Two: 3}},
		{"b, a", "5, 6 : not 5, - : 5, not 7", api.Verdict{What: api.Overlap, Answers: []string{"5", "6"}, One: 0, Two: 2}},
	} {
		if got := checked(t, "unique", c.columns, c.rules); !same(got, c.want) {
			t.Errorf("P5: Check of (%s) %s = %+v, want %+v", c.columns, c.rules, got, c.want)
		}
	}
}

func same(one, other api.Verdict) bool {
	return one.What == other.What && slices.Equal(one.Answers, other.Answers) && one.One == other.One && one.Two == other.Two
}

// TestP5Words: words are told as they stand in the model, whatever is in them.
func TestP5Words(t *testing.T) {
	for _, word := range []string{"", " ", "a b", "é", "=;,:/..", `\`, `\n`, "'`", "null", "true", "7", "\u2028\U0001F600", "12345678"} {
		m, errno, _ := Load(`ask w of "~", "` + word + `"; table t int first (w) : "~" = 1;`)
		if errno != api.OK {
			t.Fatalf("P3: %q: %d", word, errno)
		}
		want := api.Verdict{What: api.Gap, Answers: []string{`"` + word + `"`}}
		if got, errno := m.Check("t"); errno != api.OK || !same(got, want) {
			t.Errorf("P5: Check at the word %q = %+v, %d", word, got, errno)
		}
	}
	m, _, _ := Load(`ask w of "a", "b", "c", "d", "e", "f"; table t int first (w) : "a"/"b"/"c"/"d" = 1 : "f" = 1; table u int first (w) : not "f" = 1 : "f" = 1;`)
	if got, _ := m.Check("t"); !same(got, api.Verdict{What: api.Gap, Answers: []string{`"e"`}}) {
		t.Errorf("P5: Check of six words = %+v", got)
	}
	if got, _ := m.Check("u"); !same(got, api.Verdict{What: api.Sound}) {
		t.Errorf("P5: Check of six words = %+v", got)
	}
}

// TestP5Most has as many rules, columns and tests as there may be: each rule
// is for one way in which three columns can be among four numbers or not.
func TestP5Most(t *testing.T) {
	rows := make([]string, api.MaxRules)
	for n := range rows {
		for column := range api.MaxColumns {
			rows[n] += ","
			if n>>column&1 == 0 {
				rows[n] += "not "
			}
			rows[n] += "1/3/5/[7..8]"
		}
		rows[n] = rows[n][1:]
	}
	with := func(rule int, cells string) string {
		changed := slices.Clone(rows)
		changed[rule] = cells
		return strings.Join(changed, ":")
	}
	for _, c := range []struct {
		rules string
		want  api.Verdict
	}{
		{with(0, rows[0]), api.Verdict{What: api.Sound}},
		{with(0, "not 1/3/5/[7..8],not 1/3/5/[7..8],not 1/3/[5..6]/[7..8]"), api.Verdict{What: api.Gap, Answers: []string{"?", "?", "6"}}},
		{with(7, "1/3/5/[7..8],1/3/5/8,1/3/5/[7..8]"), api.Verdict{What: api.Gap, Answers: []string{"?", "7", "?"}}},
		{with(7, "1/3/[5..6]/[7..8],1/3/5/[7..8],1/3/5/[7..8]"), api.Verdict{What: api.Overlap, Answers: []string{"6", "?", "?"}, One: 6, Two: 7}},
		{with(0, "not 1/3/5/7,not 1/3/5/[7..8],not 1/3/5/[7..8]"), api.Verdict{What: api.Overlap, Answers: []string{"8", "?", "?"}, One: 0, Two: 1}},
	} {
		got := checked(t, "unique", "a,b,c", c.rules)
		if len(got.Answers) == len(c.want.Answers) {
			for n, answer := range c.want.Answers {
				if answer == "?" {
					c.want.Answers[n] = got.Answers[n]
				}
			}
		}
		if !same(got, c.want) {
			t.Errorf("P5: Check of %s = %+v, want %+v", c.rules, got, c.want)
		}
	}
}

// TestP5Stretches: the greatest number of ints that have to be told apart.
func TestP5Stretches(t *testing.T) {
	rules := ""
	for n := range api.MaxRules {
		cell := ""
		for test := range api.MaxTests {
			low := 10*(4*n+test) - 150
			cell += "/[" + strconv.Itoa(low) + ".." + strconv.Itoa(low+4) + "]"
		}
		rules += ":" + cell[1:]
	}
	if verdict := checked(t, "sum", "a", rules[1:]); verdict.What != api.Gap {
		t.Errorf("P5: Check of %s = %+v", rules[1:], verdict)
	}
}

func TestP5NoTable(t *testing.T) {
	for _, text := range models {
		m, _, _ := Load(text)
		for _, name := range []string{"", "a", "b", "c", "p", "plan", "age", "old", "nosuch", "table", "t ", " t", "T", "t;", "pric", "prices", "\xff", strings.Repeat("t", 100000)} {
			if verdict, errno := m.Check(name); errno != api.ErrTable || !same(verdict, api.Verdict{}) || verdict.Answers != nil {
				t.Errorf("P5: Check(%.20q) of %q = %+v, %d", name, text, verdict, errno)
			}
		}
	}
	var none *Model
	if verdict, errno := none.Check("t"); errno != api.ErrTable || !same(verdict, api.Verdict{}) {
		t.Errorf("P1: Check of no model = %+v, %d", verdict, errno)
	}
}

func TestP5TheTableOfTheName(t *testing.T) {
	m, _, _ := Load("ask t int; table a int sum (t) : - = 1; table b int sum (t) : < 1 = 1 : > 1 = 1; table c int sum (t) : - = 1 : 2 = 1; table d int sum (a) : - = 1;")
	for name, want := range map[string]api.Verdict{
		"a": {What: api.Sound},
		"b": {What: api.Gap, Answers: []string{"1"}},
		"c": {What: api.Overlap, Answers: []string{"2"}, One: 0, Two: 1},
		"d": {What: api.Unknown},
	} {
		if got, errno := m.Check(name); errno != api.OK || !same(got, want) {
			t.Errorf("P5: Check(%s) = %+v, %d", name, got, errno)
		}
	}
	if _, errno := m.Check("t"); errno != api.ErrTable {
		t.Errorf("P5: Check of a question: %d", errno)
	}
}

func TestP5Example(t *testing.T) {
	for cell, want := range map[string]int{"[ 18 .. 99 ]": api.Gap, "> 17": api.Sound, "> 16": api.Overlap} {
		m, _, _ := Load(strings.ReplaceAll(price, "[ 18 .. 99 ]", cell))
		verdict, errno := m.Check("price")
		if errno != api.OK || verdict.What != want {
			t.Errorf("P5: Check with %s = %+v, %d", cell, verdict, errno)
		}
		if want == api.Overlap && !same(verdict, api.Verdict{What: want, Answers: []string{`"basic"`, "17"}, One: 0, Two: 1}) {
			t.Errorf("P5: Check with %s = %+v", cell, verdict)
		}
		if want != api.Gap {
			continue
		}
		if age, err := strconv.Atoi(verdict.Answers[1]); verdict.Answers[0] != `"basic"` || err != nil || age < 100 {
			t.Errorf("P5: Check with %s = %+v", cell, verdict)
		}
	}
}

func TestP1CheckOfAllItems(t *testing.T) {
	for _, text := range models {
		recheck(t, text)
	}
}

// recheck looks that Check of each item tells one thing alone, and the same again.
func recheck(t *testing.T, text string) {
	t.Helper()
	m, errno, _ := Load(text)
	if errno != api.OK {
		return
	}
	for _, item := range m.items {
		verdict, errno := m.Check(item.Name)
		again, errnoAgain := m.Check(item.Name)
		shown := verdict.What == api.Gap || verdict.What == api.Overlap
		switch {
		case errno != errnoAgain || !same(verdict, again):
			t.Errorf("P1: Check(%s) of %q tells another thing the second time", item.Name, text)
		case (errno == api.OK) != (item.Kind == tree.Table) || (errno == api.OK) != (verdict.What != 0):
			t.Errorf("P5: Check(%s) of %q = %+v, %d", item.Name, text, verdict, errno)
		case shown != (len(verdict.Answers) > 0) || (verdict.What == api.Overlap) != (verdict.One < verdict.Two):
			t.Errorf("P5: Check(%s) of %q = %+v", item.Name, text, verdict)
		}
	}
}

// TestP2AnswersAreTheCallers writes into what came out, and into its spare room.
func TestP2AnswersAreTheCallers(t *testing.T) {
	m, _, _ := Load(`ask a int; ask p bool; ask w of "x", "y"; table t int sum (w, a, p) : "x", 1, true = 1; table u int sum (a, p) : -, - = 1 : 3, false = 1;`)
	printed := m.Print()
	for _, name := range []string{"t", "u"} {
		first, _ := m.Check(name)
		kept := first
		kept.Answers = slices.Clone(first.Answers)
		second, _ := m.Check(name)
		for _, answers := range [][]string{first.Answers, append(first.Answers, "!", "!")} {
			for n := range answers[:cap(answers)] {
				answers[:cap(answers)][n] = "!"
			}
		}
		third, _ := m.Check(name)
		if !same(second, kept) || !same(third, kept) || len(kept.Answers) == 0 {
			t.Errorf("P2: Check(%s) = %+v, then %+v, then %+v", name, kept, second, third)
		}
	}
	if m.Print() != printed {
		t.Error("P2: Check changed its model")
	}
}

// TestP5Judged holds verdicts on random tables against a look at every point
// of a grid that has a point on each side of whatever a test can tell apart.
func TestP5Judged(t *testing.T) {
	random := rand.New(rand.NewSource(5))
	var seen [api.Unknown + 1]int
	for range 6000 {
		names := []string{"a", "b", "c", "p", "q", "w"}
		random.Shuffle(len(names), func(i, j int) { names[i], names[j] = names[j], names[i] })
		names = names[:1+random.Intn(api.MaxColumns)]
		rules := randomRules(random, names)
		if random.Intn(2) == 0 {
			rules = splitRules(random, names)
		}
		columns, table := strings.Join(names, ","), strings.Join(rules, ":")
		if len(asked)+len(table)+6*len(rules)+30 > api.MaxModel {
			continue
		}
		want := judged(names, rules)
		seen[want]++
		if verdict := checked(t, "unique", columns, table); verdict.What != want {
			t.Errorf("P5: Check of (%s) %s = %+v, want %d", columns, table, verdict, want)
		}
	}
	if seen[api.Sound] < 500 || seen[api.Gap] < 500 || seen[api.Overlap] < 500 {
		t.Errorf("the tables are too much alike: %v", seen)
	}
}

func randomRules(random *rand.Rand, names []string) []string {
	rules := make([]string, 1+random.Intn(api.MaxRules))
	for n := range rules {
		cells := make([]string, len(names))
		for column, name := range names {
			cells[column] = randomCell(random, name)
		}
		rules[n] = strings.Join(cells, ",")
	}
	return rules
}

// splitRules are rules that share all answers among them, since each came of
// parting one for more into two; of every second table one cell is another.
func splitRules(random *rand.Rand, names []string) []string {
	rules := [][]string{slices.Repeat([]string{"-"}, len(names))}
	for range 2 * api.MaxRules {
		old, column := random.Intn(len(rules)), random.Intn(len(names))
		if len(rules) == api.MaxRules || rules[old][column] != "-" {
			continue
		}
		cell, _ := strings.CutPrefix(randomCell(random, names[column]), "not ")
		if cell == "-" {
			continue
		}
		half := slices.Clone(rules[old])
		rules[old][column], half[column] = cell, "not "+cell
		rules = append(rules, half)
	}
	if random.Intn(2) == 0 {
		column := random.Intn(len(names))
		rules[random.Intn(len(rules))][column] = randomCell(random, names[column])
	}
	joined := make([]string, len(rules))
	for n, cells := range rules {
		joined[n] = strings.Join(cells, ",")
	}
	return joined
}

func randomCell(random *rand.Rand, name string) string {
	if random.Intn(3) == 0 {
		return "-"
	}
	tests := make([]string, 1+random.Intn(api.MaxTests))
	for n := range tests {
		tests[n] = randomTest(random, name)
	}
	return []string{"", "not "}[random.Intn(2)] + strings.Join(tests, "/")
}

func randomTest(random *rand.Rand, name string) string {
	switch name {
	case "p", "q":
		return []string{"true", "false"}[random.Intn(2)]
	case "w":
		return []string{`"x"`, `"y"`, `"z"`}[random.Intn(3)]
	}
	number := func() string {
		ends := [...]int64{math.MinInt64, math.MinInt64 + 1, math.MaxInt64 - 1, math.MaxInt64}
		if random.Intn(4) == 0 {
			return strconv.FormatInt(ends[random.Intn(len(ends))], 10)
		}
		return strconv.Itoa(random.Intn(5) - 2)
	}
	switch random.Intn(4) {
	case 0:
		return "<" + number()
	case 1:
		return ">" + number()
	case 2:
		return "[" + number() + ".." + number() + "]"
	}
	return number()
}

// judged looks at every point of the grid.
func judged(names, rules []string) int {
	points := [][]string{nil}
	for _, name := range names {
		var longer [][]string
		for _, point := range points {
			for _, answer := range grid(name) {
				longer = append(longer, append(slices.Clone(point), answer))
			}
		}
		points = longer
	}
	what := api.Sound
	for _, point := range points {
		switch len(matchingAt(rules, point)) {
		case 0:
			what = api.Gap
		case 1:
		default:
			return api.Overlap
		}
	}
	return what
}

func grid(name string) []string {
	switch name {
	case "p", "q":
		return []string{"true", "false"}
	case "w":
		return []string{`"x"`, `"y"`, `"z"`}
	}
	var numbers []string
	for n := range int64(3) {
		numbers = append(numbers, strconv.FormatInt(math.MinInt64+n, 10), strconv.FormatInt(math.MaxInt64-n, 10))
	}
	for n := -3; n <= 3; n++ {
		numbers = append(numbers, strconv.Itoa(n))
	}
	return numbers
}
