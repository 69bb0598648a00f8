package wicket

import (
	"math/big"
	"math/rand"
	"slices"
	"strconv"
	"strings"
	"testing"

	"wicket/api"
)

// The judge works models out from a drawing of its own, all of them anew at
// each step, with values as they are written.

// levels has how weakly each operator binds; what is not there is an atom.
var levels = map[string]int{"if": 0, "or": 1, "and": 2, "not": 3, "=": 4, "<": 4, "+": 5, "-": 5, "*": 6, "/": 6}

const atom = 7

// drawing is an expression: an operator with its parts, or a name or a value alone.
type drawing struct {
	head  string
	parts []*drawing
}

func (d *drawing) level() int {
	if level, ok := levels[d.head]; ok && len(d.parts) > 0 {
		return level
	}
	return atom
}

// at writes it with no more brackets than it needs where that level is needed.
func (d *drawing) at(level int) string {
	if d.level() < level {
		return "(" + d.at(0) + ")"
	}
	own := d.level()
	switch {
	case own == atom:
		return d.head
	case d.head == "if":
		return "if " + d.parts[0].at(0) + " then " + d.parts[1].at(0) + " else " + d.parts[2].at(0)
	case d.head == "not":
		return "not " + d.parts[0].at(own)
	case own == levels["="]:
		return d.parts[0].at(own+1) + d.head + d.parts[1].at(own+1)
	}
	return d.parts[0].at(own) + " " + d.head + " " + d.parts[1].at(own+1)
}

func (d *drawing) names(sought map[string]bool) bool {
	return len(d.parts) == 0 && sought[d.head] || slices.ContainsFunc(d.parts, func(p *drawing) bool { return p.names(sought) })
}

// value is what it comes to, where values has what the items ahead come to.
func (d *drawing) value(values map[string]string) string {
	if len(d.parts) == 0 {
		if v, ok := values[d.head]; ok {
			return v
		}
		return d.head
	}
	if d.head == "if" {
		switch condition := d.parts[0].value(values); condition {
		case "true":
			return d.parts[1].value(values)
		case "false":
			return d.parts[2].value(values)
		default:
			return condition
		}
	}
	var sides []string
	for _, part := range d.parts {
		sides = append(sides, part.value(values))
	}
	enough := map[string]string{"and": "false", "or": "true"}[d.head]
	for _, v := range []string{enough, "error", "null"} {
		if slices.Contains(sides, v) {
			return v
		}
	}
	switch d.head {
	case "and":
		return "true"
	case "or":
		return "false"
	case "not":
		return strconv.FormatBool(sides[0] == "false")
	case "=":
		return strconv.FormatBool(sides[0] == sides[1])
	}
	return reckoned(sides[0], d.head, sides[1])
}

func reckoned(left, operator, right string) string {
	x, _ := new(big.Int).SetString(left, 10)
	y, _ := new(big.Int).SetString(right, 10)
	z := new(big.Int)
	switch operator {
	case "<":
		return strconv.FormatBool(x.Cmp(y) < 0)
	case "+":
		z.Add(x, y)
	case "-":
		z.Sub(x, y)
	case "*":
		z.Mul(x, y)
	case "/":
		if y.Sign() == 0 {
			return "error"
		}
		z.Quo(x, y)
	}
	return ifRoom(z)
}

func ifRoom(number *big.Int) string {
	written := number.String()
	if _, err := strconv.ParseInt(written, 10, 64); err != nil {
		return "error"
	}
	return written
}

type drawnRule struct {
	cells  []string
	output *drawing
}

// drawnItem is a question, a let, if it has an expression, or a table, if it has rules.
type drawnItem struct {
	name, kind string
	expr       *drawing
	policy     string
	columns    []string
	rules      []drawnRule
}

func (i drawnItem) text() string {
	switch {
	case i.expr != nil:
		return "let " + i.name + " " + i.kind + "=" + i.expr.at(0) + ";"
	case i.rules == nil:
		return "ask " + i.name + " " + i.kind + ";"
	}
	text := "table " + i.name + " " + i.kind + " " + i.policy + "(" + strings.Join(i.columns, ",") + ")"
	for _, rule := range i.rules {
		text += ":" + strings.Join(rule.cells, ",") + "=" + rule.output.at(0)
	}
	return text + ";"
}

func (i drawnItem) names(sought map[string]bool) bool {
	return i.expr != nil && i.expr.names(sought) ||
		slices.ContainsFunc(i.columns, func(c string) bool { return sought[c] }) ||
		slices.ContainsFunc(i.rules, func(r drawnRule) bool { return r.output.names(sought) })
}

func (i drawnItem) value(values map[string]string) string {
	if i.expr != nil {
		return i.expr.value(values)
	}
	broken := false
	var matching []string
	for _, rule := range i.rules {
		switch ruleStands(rule, i.columns, values) {
		case "broken":
			if i.policy == "first" {
				return "error"
			}
			broken = true
		case "matches":
			if i.policy == "first" {
				return rule.output.value(values)
			}
			matching = append(matching, rule.output.value(values))
		}
	}
	if broken {
		return "error"
	}
	return joined(i.policy, matching)
}

func ruleStands(rule drawnRule, columns []string, values map[string]string) string {
	stands := "matches"
	for n, cell := range rule.cells {
		v := values[columns[n]]
		switch {
		case cell == "-":
		case v == "error":
			stands = "broken"
		case v == "null" || !cellRight(cell, v):
			return "out"
		}
	}
	return stands
}

func joined(policy string, outputs []string) string {
	switch {
	case policy == "count":
		return strconv.Itoa(len(outputs))
	case policy == "unique" && len(outputs) > 1, slices.Contains(outputs, "error"):
		return "error"
	case policy == "unique" && len(outputs) == 1:
		return outputs[0]
	}
	total, best := new(big.Int), "null"
	for _, output := range outputs {
		number, ok := new(big.Int).SetString(output, 10)
		if !ok {
			continue
		}
		total.Add(total, number)
		if bound, ok := new(big.Int).SetString(best, 10); !ok || (number.Cmp(bound) < 0) == (policy == "least") {
			best = output
		}
	}
	if policy == "sum" {
		return ifRoom(total)
	}
	return best
}

// hangs is what it hangs on, where hung has what the items ahead hang on.
func (d *drawing) hangs(values map[string]string, hung map[string][]string) []string {
	if len(d.parts) == 0 {
		return hung[d.head]
	}
	var sides [][]string
	for _, part := range d.parts {
		sides = append(sides, part.hangs(values, hung))
	}
	for n, enough := range map[string]string{"and": "false", "or": "true"} {
		for side := range sides {
			if d.head == n && len(sides[side]) == 0 && d.parts[side].value(values) == enough {
				return nil
			}
		}
	}
	if d.head == "if" && len(sides[0]) == 0 {
		switch d.parts[0].value(values) {
		case "true":
			return sides[1]
		case "false":
			return sides[2]
		}
		return nil
	}
	return slices.Concat(sides...)
}

func (i drawnItem) hangs(values map[string]string, hung map[string][]string) []string {
	switch {
	case i.expr != nil:
		return i.expr.hangs(values, hung)
	case i.rules == nil && values[i.name] == "null":
		return []string{i.name}
	}
	var all []string
	for _, rule := range i.counting(values, hung) {
		for n, cell := range rule.cells {
			if cell != "-" {
				all = append(all, hung[i.columns[n]]...)
			}
		}
		if i.policy != "count" {
			all = append(all, rule.output.hangs(values, hung)...)
		}
	}
	return all
}

// counting are the rules that are not out for good, of first up to the first
// settled one.
func (i drawnItem) counting(values map[string]string, hung map[string][]string) []drawnRule {
	var rules []drawnRule
	for _, rule := range i.rules {
		sure := drawnRule{output: rule.output} // with those cells alone that can't change
		for n, cell := range rule.cells {
			if len(hung[i.columns[n]]) > 0 {
				cell = "-"
			}
			sure.cells = append(sure.cells, cell)
		}
		if ruleStands(sure, i.columns, values) == "out" {
			continue
		}
		rules = append(rules, rule)
		if i.policy == "first" && slices.Equal(sure.cells, rule.cells) {
			break
		}
	}
	return rules
}

// drawn is a model: its items, and how many of them are questions.
type drawn struct {
	random    *rand.Rand
	items     []drawnItem
	questions int
}

const drawnWord = `of "x","y","z"`

var kinds = [...]string{"int", "int", "bool", drawnWord}

func (d *drawn) kind() string { return kinds[d.random.Intn(len(kinds))] }

func (d *drawn) one(of ...string) string { return of[d.random.Intn(len(of))] }

func (d *drawn) number() string {
	if d.random.Intn(5) == 0 {
		return d.one(most, least, "9223372036854775806", "-9223372036854775807", "4294967296")
	}
	return strconv.Itoa(d.random.Intn(6) - 2)
}

// answer is a value of the kind, as it is written.
func (d *drawn) answer(kind string) string {
	switch kind {
	case "int":
		return d.number()
	case "bool":
		return d.one("true", "false")
	}
	return d.one(`"x"`, `"y"`, `"z"`)
}

func (d *drawn) leaf(kind string) *drawing {
	var names []string
	for _, item := range d.items {
		if item.kind == kind {
			names = append(names, item.name)
		}
	}
	switch n := d.random.Intn(10); {
	case n < 6 && len(names) > 0:
		return &drawing{head: d.one(names...)}
	case n == 9:
		return &drawing{head: "null"}
	}
	return &drawing{head: d.answer(kind)}
}

func (d *drawn) expr(kind string, deep int) *drawing {
	if deep == 0 || d.random.Intn(4) == 0 {
		return d.leaf(kind)
	}
	join := func(head string, kinds ...string) *drawing {
		joined := &drawing{head: head}
		for _, kind := range kinds {
			joined.parts = append(joined.parts, d.expr(kind, deep-1))
		}
		return joined
	}
	switch {
	case d.random.Intn(5) == 0 || kind == drawnWord:
		return join("if", "bool", kind, kind)
	case kind == "int":
		return join(d.one("+", "-", "*", "/"), kind, kind)
	}
	switch d.random.Intn(6) {
	case 0:
		return join("not", kind)
	case 1:
		return join("<", "int", "int")
	case 2:
		side := d.kind()
		return join("=", side, side)
	}
	return join(d.one("and", "or"), kind, kind)
}

func (d *drawn) table(item drawnItem) drawnItem {
	item.policy = d.one("unique", "first", "sum", "count", "least", "most")
	if item.policy != "unique" && item.policy != "first" {
		item.kind = "int"
	}
	var like []string // names of which randomCell knows the kind
	for _, n := range d.random.Perm(len(d.items))[:min(len(d.items), 1+d.random.Intn(api.MaxColumns))] {
		item.columns = append(item.columns, d.items[n].name)
		like = append(like, map[string]string{"int": "a", "bool": "p", drawnWord: "w"}[d.items[n].kind])
	}
	for range 1 + d.random.Intn(4) {
		kind := item.kind
		if item.policy == "count" {
			kind = d.one("int", "bool")
		}
		rule := drawnRule{output: d.expr(kind, 2)}
		for _, name := range like {
			rule.cells = append(rule.cells, randomCell(d.random, name))
		}
		item.rules = append(item.rules, rule)
	}
	return item
}

func (d *drawn) text() string {
	text := ""
	for _, item := range d.items {
		text += item.text()
	}
	return text
}

// draw makes a model that is no longer than one may be.
func draw(random *rand.Rand) *drawn {
	d := &drawn{random: random, questions: 2 + random.Intn(4)}
	for n := range d.questions + 1 + random.Intn(10) {
		item := drawnItem{name: string(rune('a' + n)), kind: d.kind()}
		switch {
		case n < d.questions:
		case random.Intn(2) == 0:
			item.expr = d.expr(item.kind, 3)
		default:
			item = d.table(item)
		}
		d.items = append(d.items, item)
		if len(d.text()) > api.MaxModel {
			d.items = d.items[:n]
			break
		}
	}
	return d
}

// values are what all items come to.
func (d *drawn) values(answers map[string]string) map[string]string {
	values := map[string]string{}
	for _, item := range d.items[:d.questions] {
		values[item.name] = "null"
		if answer, ok := answers[item.name]; ok {
			values[item.name] = answer
		}
	}
	for _, item := range d.items[d.questions:] {
		values[item.name] = item.value(values)
	}
	return values
}

// wanted is what each item hangs on, in the order of the items.
func (d *drawn) wanted(values map[string]string) map[string][]string {
	hung := map[string][]string{}
	for _, item := range d.items {
		on := item.hangs(values, hung)
		for _, question := range d.items[:d.questions] {
			if slices.Contains(on, question.name) {
				hung[item.name] = append(hung[item.name], question.name)
			}
		}
	}
	return hung
}

// last are the decisions that name what has become another.
func (d *drawn) last(was, is map[string]string) []string {
	changed := map[string]bool{}
	for name, v := range is {
		changed[name] = was[name] != v
	}
	var last []string
	for _, item := range d.items {
		if item.names(changed) {
			last = append(last, item.name)
		}
	}
	return last
}

// sheet is a form with what the judge expects of it.
type sheet struct {
	form    *Form
	answers map[string]string
	values  map[string]string
	last    []string
}

func (s *sheet) holds(t *testing.T, text string) {
	t.Helper()
	for name, want := range s.values {
		if got, errno := s.form.Value(name); got != want || errno != api.OK {
			t.Fatalf("P6: Value(%s) of %q at %v = %s, %d, want %s", name, text, s.answers, got, errno, want)
		}
	}
	if got := s.form.Last(); !slices.Equal(got, s.last) {
		t.Fatalf("P7: Last of %q at %v = %v, want %v", text, s.answers, got, s.last)
	}
}

// wants looks at what is wanted of each item, and that what is not does not matter.
func (s *sheet) wants(t *testing.T, d *drawn) {
	t.Helper()
	hung := d.wanted(s.values)
	for _, item := range d.items {
		got, errno := s.form.Wanted(item.name)
		if !slices.Equal(got, hung[item.name]) || errno != api.OK {
			t.Fatalf("P8: Wanted(%s) of %q at %v = %v, %d, want %v", item.name, d.text(), s.answers, got, errno, hung[item.name])
		}
		other := *s.form
		for _, question := range d.items[:d.questions] {
			if s.values[question.name] == "null" && !slices.Contains(got, question.name) {
				sets(t, &other, question.name, d.answer(question.kind), api.OK)
			}
		}
		if v, _ := other.Value(item.name); v != s.values[item.name] {
			t.Fatalf("P9: %s of %q at %v wants %v, and is %s, but %s with %v", item.name, d.text(), s.answers, got, s.values[item.name], v, stands(&other))
		}
	}
}

// step answers, drops or is refused, and is judged.
func (s *sheet) step(t *testing.T, d *drawn) {
	t.Helper()
	item := d.items[d.random.Intn(d.questions)]
	switch d.random.Intn(10) {
	case 0:
		sets(t, s.form, item.name, d.one("", "null", "error", "x", "+1", "00", item.name), api.ErrValue)
		return
	case 1:
		decision := d.items[d.questions+d.random.Intn(len(d.items)-d.questions)]
		sets(t, s.form, decision.name, d.answer(decision.kind), api.ErrQuestion)
		drops(t, s.form, decision.name, api.ErrQuestion)
		return
	case 2, 3:
		delete(s.answers, item.name)
		drops(t, s.form, item.name, api.OK)
	default:
		s.answers[item.name] = d.answer(item.kind)
		sets(t, s.form, item.name, s.answers[item.name], api.OK)
	}
	was := s.values
	s.values = d.values(s.answers)
	s.last = d.last(was, s.values)
}

// TestP8P9Judged asks forms of many models, at many answers, what is wanted.
func TestP8P9Judged(t *testing.T) {
	random := rand.New(rand.NewSource(13))
	loaded, counts := 0, map[string]int{}
	for range 3000 {
		d := draw(random)
		m, errno, _ := Load(d.text())
		if errno != api.OK || len(d.items) == d.questions {
			continue
		}
		loaded++
		s := &sheet{form: m.New(), answers: map[string]string{}, values: d.values(nil)}
		s.wants(t, d)
		for range 10 {
			s.step(t, d)
			s.wants(t, d)
			hung := d.wanted(s.values)
			for _, item := range d.items[d.questions:] {
				free := d.questions - len(s.answers)
				switch wanted := len(hung[item.name]); {
				case free == 0:
				case wanted == 0:
					counts["none"]++
				case wanted < free:
					counts["some"]++
				default:
					counts["all"]++
				}
			}
		}
	}
	if loaded < 2000 || counts["none"] < 5000 || counts["some"] < 5000 || counts["all"] < 5000 {
		t.Errorf("the models are too much alike: %d, %v", loaded, counts)
	}
}

// TestP6P7Judged fills in two forms of each of many models, step by step.
func TestP6P7Judged(t *testing.T) {
	random := rand.New(rand.NewSource(11))
	var loaded, stopped int
	seen := map[string]int{}
	for range 3000 {
		d := draw(random)
		text := d.text()
		m, errno, _ := Load(text)
		if errno != api.OK || len(d.items) == d.questions {
			if errno > api.OK && errno != api.ErrType {
				t.Fatalf("P3: Load(%q) = %d", text, errno)
			}
			continue
		}
		loaded++
		var forms [2]*sheet
		for n := range forms {
			forms[n] = &sheet{m.New(), map[string]string{}, d.values(nil), nil}
			for _, item := range d.items[d.questions:] {
				forms[n].last = append(forms[n].last, item.name)
			}
		}
		for range 25 {
			forms[random.Intn(len(forms))].step(t, d)
			for _, s := range forms {
				s.holds(t, text)
			}
			for _, item := range d.items[d.questions:] {
				seen[forms[0].values[item.name]]++
			}
			if last := len(forms[0].last); 0 < last && last < len(d.items)-d.questions {
				stopped++
			}
		}
	}
	if loaded < 2000 || stopped < 5000 || seen["null"] < 5000 || seen["error"] < 5000 || seen["true"] < 2000 || seen["false"] < 2000 || seen["1"] < 2000 || seen[`"x"`] < 500 {
		t.Errorf("the models are too much alike: %d, %d, %v", loaded, stopped, seen)
	}
}
