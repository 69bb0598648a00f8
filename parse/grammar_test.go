package parse

import (
	"math/rand"
	"slices"
	"strings"
	"testing"

	"wicket/api"
	"wicket/token"
)

// search reads the document's grammar a second time, in a plainer way than the
// parser does: it tries every way through, and never looks ahead. The furthest
// token that some way gets to is then the first that in no model stands behind
// the ones ahead of it.
type search struct {
	tokens []token.Token
	far    int
}

// way takes the places at which it may begin, and tells those at which it may end.
type way func(from []int) []int

func union(a, b []int) []int {
	all := slices.Concat(a, b)
	slices.Sort(all)
	return slices.Compact(all)
}

func (s *search) is(kind token.Kind) way {
	return func(from []int) []int {
		var to []int
		for _, at := range from {
			s.far = max(s.far, at)
			if s.tokens[at].Kind == kind {
				s.far = max(s.far, at+1)
				to = append(to, at+1)
			}
		}
		return to
	}
}

func then(ways ...way) way {
	return func(at []int) []int {
		for _, w := range ways {
			if at = w(at); len(at) == 0 {
				return nil
			}
		}
		return at
	}
}

func either(ways ...way) way {
	return func(from []int) []int {
		var to []int
		for _, w := range ways {
			to = union(to, w(from))
		}
		return to
	}
}

func (s *search) any(kinds ...token.Kind) way {
	var ways []way
	for _, kind := range kinds {
		ways = append(ways, s.is(kind))
	}
	return either(ways...)
}

// upTo is one w, and at most so many in all, each further one behind a sign.
func upTo(most int, sign, w way) way {
	return func(from []int) []int {
		last := w(from)
		to := last
		for n := 1; n < most && len(last) > 0; n++ {
			last = then(sign, w)(last)
			to = union(to, last)
		}
		return to
	}
}

func nothing(from []int) []int { return from }

func (s *search) value() way {
	return either(s.any(token.Number, token.True, token.False, token.Word), then(s.is(token.Minus), s.any(token.Number, token.Great)))
}

func (s *search) expr(deeper int) way {
	return func(from []int) []int {
		inner := func(from []int) []int {
			if deeper == 0 || len(from) == 0 {
				return nil
			}
			return s.expr(deeper - 1)(from)
		}
		// A `(` or `if` that is too deep must not be got past.
		opens := func(kind token.Kind) way {
			if deeper == 0 {
				return s.is(-1)
			}
			return s.is(kind)
		}
		atom := either(s.value(), s.any(token.Null, token.Name), then(opens(token.Open), inner, s.is(token.Close)))
		product := upTo(1000, s.any(token.Star, token.Slash), atom)
		sum := upTo(1000, s.any(token.Plus, token.Minus), product)
		comparison := then(sum, either(nothing, then(s.any(token.Equal, token.Less), sum)))
		not := then(func(from []int) []int {
			to := from
			for last := from; len(last) > 0; to = union(to, last) {
				last = s.is(token.Not)(last)
			}
			return to
		}, comparison)
		or := upTo(1000, s.is(token.Or), upTo(1000, s.is(token.And), not))
		whole := then(opens(token.If), inner, s.is(token.Then), inner, s.is(token.Else), inner)
		return either(whole, or)(from)
	}
}

// words reads `of` and its words, the same one not twice.
func (s *search) words(from []int) []int {
	var to []int
	for _, start := range s.is(token.Of)(from) {
		seen := []string{}
		at := []int{start}
		for len(seen) < api.MaxWords {
			if slices.Contains(seen, s.tokens[at[0]].Text) {
				break
			}
			seen = append(seen, s.tokens[at[0]].Text)
			if at = s.is(token.Word)(at); len(at) == 0 {
				break
			}
			to = union(to, at)
			if len(seen) == api.MaxWords {
				break
			}
			if at = s.is(token.Comma)(at); len(at) == 0 {
				break
			}
		}
	}
	return to
}

func (s *search) table(typed way) way {
	policy := s.any(token.Unique, token.First, token.Sum, token.Count, token.Least, token.Most)
	value := s.value()
	test := either(value, then(s.any(token.Less, token.Greater), value), then(s.is(token.OpenSquare), value, s.is(token.Range), value, s.is(token.CloseSquare)))
	cell := either(s.is(token.Minus), then(either(nothing, s.is(token.Not)), upTo(api.MaxTests, s.is(token.Slash), test)))
	var all []way
	for columns := 1; columns <= api.MaxColumns; columns++ {
		names, cells := []way{s.is(token.Name)}, []way{cell}
		for n := 1; n < columns; n++ {
			names = append(names, s.is(token.Comma), s.is(token.Name))
			cells = append(cells, s.is(token.Comma), cell)
		}
		rule := then(then(cells...), s.is(token.Equal), s.expr(api.MaxNest))
		rules := then(s.is(token.Colon), upTo(api.MaxRules, s.is(token.Colon), rule))
		all = append(all, then(policy, s.is(token.Open), then(names...), s.is(token.Close), rules))
	}
	return then(s.is(token.Table), s.is(token.Name), typed, either(all...), s.is(token.Semicolon))
}

// fault is the number of the first token that is a fault, or -1.
func (s *search) fault() int {
	typed := either(s.any(token.Int, token.Bool), s.words)
	head := func(kind token.Kind) way { return then(s.is(kind), s.is(token.Name), typed) }
	item := either(
		then(head(token.Ask), s.is(token.Semicolon)),
		then(head(token.Let), s.is(token.Equal), s.expr(api.MaxNest), s.is(token.Semicolon)),
		s.table(typed),
	)
	ends := upTo(api.MaxItems, nothing, item)([]int{0})
	if last := len(s.tokens) - 1; s.tokens[last].Kind == token.End && slices.Contains(ends, last) {
		return -1
	}
	return s.far
}

// maker writes texts that are models, or nearly so.
type maker struct{ *rand.Rand }

func (m maker) pick(list ...string) string { return list[m.Intn(len(list))] }

func (m maker) many(most int, sign string, one func() string) string {
	list := []string{one()}
	for len(list) < most && m.Intn(2) == 0 {
		list = append(list, one())
	}
	return strings.Join(list, " "+sign+" ")
}

func (m maker) name() string { return m.pick("a", "b", "c", "d") }

func (m maker) value() string {
	return m.pick("0", "7", "- 3", "true", "false", `"x"`, `"y"`, "- 9223372036854775808")
}

func (m maker) expr(depth int) string {
	if depth == 0 {
		return m.pick(m.value(), m.name(), "null")
	}
	switch m.Intn(6) {
	case 0:
		return "if " + m.expr(depth-1) + " then " + m.expr(depth-1) + " else " + m.expr(depth-1)
	case 1:
		return "( " + m.expr(depth-1) + " )"
	case 2:
		return "not ( " + m.expr(depth-1) + " )"
	case 3:
		return m.expr(0)
	}
	return m.expr(0) + " " + m.pick("+", "-", "*", "/", "=", "<", "and", "or") + " " + m.expr(0)
}

func (m maker) test() string {
	switch m.Intn(4) {
	case 0:
		return m.pick("<", ">") + " " + m.value()
	case 1:
		return "[ " + m.value() + " .. " + m.value() + " ]"
	}
	return m.value()
}

func (m maker) cell() string {
	if m.Intn(3) == 0 {
		return "-"
	}
	return m.pick("", "not ") + m.many(api.MaxTests, "/", m.test)
}

func (m maker) typed() string {
	return m.pick("int", "bool", `of "x"`, `of "y" , "x"`, `of "a" , "b" , "c" , "d" , "e" , "f"`)
}

func (m maker) table() string {
	columns := 1 + m.Intn(api.MaxColumns)
	rule := func() string {
		cells := []string{}
		for range columns {
			cells = append(cells, m.cell())
		}
		return strings.Join(cells, " , ") + " = " + m.expr(m.Intn(3))
	}
	names := []string{}
	for range columns {
		names = append(names, m.name())
	}
	policy := m.pick("unique", "first", "sum", "count", "least", "most")
	return "table " + m.name() + " " + m.typed() + " " + policy + " ( " + strings.Join(names, " , ") + " ) : " + m.many(api.MaxRules, ":", rule) + " ;"
}

func (m maker) item() string {
	switch m.Intn(3) {
	case 0:
		return "ask " + m.name() + " " + m.typed() + " ;"
	case 1:
		return "let " + m.name() + " " + m.typed() + " = " + m.expr(m.Intn(4)) + " ;"
	}
	return m.table()
}

// bent is the text with one of its tokens gone, doubled or another one.
func (m maker) bent(text string) string {
	list := strings.Fields(text)
	if len(list) == 0 {
		return text
	}
	at := m.Intn(len(list))
	other := m.pick(append(strings.Fields(`( ) [ ] , ; : .. + - * / = < > . 01 "x" "y" "a 9223372036854775808 9223372036854775809 5 abcdefghi é`), list...)...)
	switch m.Intn(4) {
	case 0:
		list = slices.Delete(list, at, at+1)
	case 1:
		list = slices.Insert(list, at, other)
	case 2:
		list[at] = other
	case 3:
		list = list[:at]
	}
	return strings.Join(list, m.pick(" ", "\n", "  "))
}

func compare(t *testing.T, text string) {
	t.Helper()
	s := search{tokens: token.Scan(text)}
	fault := s.fault()
	_, errno, place := Items(text)
	switch {
	case fault < 0 && errno == api.ErrSyntax:
		t.Errorf("P3: %q is a model, but told as a fault at %d", text, place)
	case fault >= 0 && (errno != api.ErrSyntax || place != s.tokens[fault].Place):
		t.Errorf("P3: %q: told %d at %d, want ErrSyntax at %d", text, errno, place, s.tokens[fault].Place)
	}
}

func TestFaultsAreWhereASearchFindsThem(t *testing.T) {
	m := maker{rand.New(rand.NewSource(1))}
	for range 4000 {
		text := m.many(4, "", m.item)
		compare(t, text)
		compare(t, m.bent(text))
		compare(t, m.bent(m.bent(text)))
	}
}

func TestBoundsAreWhereASearchFindsThem(t *testing.T) {
	for n := range 23 {
		compare(t, strings.Repeat("ask a int ; ", n))
		compare(t, "let a int = "+strings.Repeat("( ", n)+"1"+strings.Repeat(" )", n)+" ;")
		compare(t, "let a int = "+strings.Repeat("if true then ", n)+"1"+strings.Repeat(" else 2", n)+" ;")
		compare(t, "let a int = "+strings.Repeat("if 1 then 2 else ( ", n)+"1"+strings.Repeat(" )", n)+" ;")
		compare(t, "let a int = 1"+strings.Repeat(" + ( if 1 then 2 else 3 )", n)+" ;")
		compare(t, "table a int sum ( b ) "+strings.Repeat(": - = 1 ", n)+";")
		compare(t, "table a int sum ( b"+strings.Repeat(" , b", n)+" ) : -"+strings.Repeat(" , -", n)+" = 1 ;")
		compare(t, "table a int sum ( b ) : 1"+strings.Repeat(" / 1", n)+" = 1 ;")
	}
}

// misnomer finds the first fault of names by going along the tokens alone.
func misnomer(tokens []token.Token) int {
	ahead := []string{}
	for len(tokens) > 1 {
		end := slices.IndexFunc(tokens, func(one token.Token) bool { return one.Kind == token.Semicolon })
		item, columns := tokens[:end], 0
		if item[0].Kind == token.Table {
			columns = slices.IndexFunc(item, func(one token.Token) bool { return one.Kind == token.Close })
		}
		seen := []string{}
		for n, one := range item {
			known := slices.Contains(ahead, one.Text)
			if one.Kind == token.Name && (known == (n == 1) || n > 1 && n < columns && slices.Contains(seen, one.Text)) {
				return one.Place
			}
			if n > 1 && n < columns && one.Kind == token.Name {
				seen = append(seen, one.Text)
			}
		}
		ahead = append(ahead, item[1].Text)
		tokens = tokens[end+1:]
	}
	return -1
}

func TestNamesAreFoundFromTheTokens(t *testing.T) {
	m := maker{rand.New(rand.NewSource(2))}
	told := [2]int{}
	for range 4000 {
		text := "ask a int ; ask b bool ; " + m.many(3, "", m.item)
		want := misnomer(token.Scan(text))
		_, errno, place := Items(text)
		if (want < 0) != (errno == api.OK) || want >= 0 && (errno != api.ErrName || place != want) {
			t.Errorf("P3: %q: told %d at %d, want a fault at %d", text, errno, place, want)
		}
		told[min(want, 0)+1]++
	}
	if told[0] == 0 || told[1] == 0 {
		t.Errorf("only one side was tried: %v", told)
	}
}
