package parse

import (
	"slices"
	"strconv"

	"wicket/api"
	"wicket/token"
	"wicket/tree"
	"wicket/value"
)

var policies = [...]token.Kind{
	tree.Unique: token.Unique,
	tree.First:  token.First,
	tree.Sum:    token.Sum,
	tree.Count:  token.Count,
	tree.Least:  token.Least,
	tree.Most:   token.Most,
}

// table reads what stands in a table behind its type.
func (p *parser) table(item *tree.Item) {
	item.Policy = p.policy()
	p.want(token.Open)
	p.list(api.MaxColumns, token.Comma, func() { item.Columns = p.column(item.Columns) })
	p.want(token.Close)
	p.want(token.Colon)
	p.list(api.MaxRules, token.Colon, func() {
		item.Rules = append(item.Rules, p.rule(len(item.Columns)))
	})
}

func (p *parser) policy() tree.Policy {
	for policy, kind := range policies {
		if p.has(kind) {
			return tree.Policy(policy)
		}
	}
	p.fail()
	return 0
}

// column reads one column more.
func (p *parser) column(columns []int) []int {
	name := p.tokens[p.at]
	item := p.use()
	if slices.Contains(columns, item) {
		p.misname(name)
	}
	return append(columns, item)
}

func (p *parser) rule(columns int) tree.Rule {
	cells := []tree.Cell{p.cell()}
	for len(cells) < columns {
		p.want(token.Comma)
		cells = append(cells, p.cell())
	}
	p.want(token.Equal)
	return tree.Rule{Cells: cells, Output: p.expr()}
}

func (p *parser) cell() tree.Cell {
	if p.isAnything() {
		p.want(token.Minus)
		return tree.Cell{}
	}
	cell := tree.Cell{Not: p.has(token.Not)}
	p.list(api.MaxTests, token.Slash, func() { cell.Tests = append(cell.Tests, p.test()) })
	return cell
}

// isAnything tells the `-` that is a cell from the one of a value: only the
// token behind it does.
func (p *parser) isAnything() bool {
	if p.next() != token.Minus {
		return false
	}
	behind := p.tokens[p.at+1].Kind
	return behind != token.Number && behind != token.Great
}

func (p *parser) test() tree.Test {
	switch {
	case p.has(token.Less):
		return tree.Test{Kind: tree.Below, Value: p.value()}
	case p.has(token.Greater):
		return tree.Test{Kind: tree.Above, Value: p.value()}
	case p.has(token.OpenSquare):
		lower := p.value()
		p.want(token.Range)
		upper := p.value()
		p.want(token.CloseSquare)
		return tree.Test{Kind: tree.Between, Value: lower, Upper: upper}
	}
	return tree.Test{Kind: tree.Is, Value: p.value()}
}

func (p *parser) value() value.Value {
	switch p.next() {
	case token.Minus:
		return p.below0()
	case token.Number:
		return number(p.want(token.Number).Text)
	case token.Word:
		return value.Value{Kind: value.Word, Text: unquote(p.want(token.Word).Text)}
	}
	truth := p.has(token.True)
	if !truth {
		p.want(token.False)
	}
	return value.Value{Kind: value.Bool, Truth: truth}
}

func (p *parser) below0() value.Value {
	p.want(token.Minus)
	kind := token.Number
	if p.next() == token.Great {
		kind = token.Great
	}
	return number("-" + p.want(kind).Text)
}

// number needs no look at the error: tokens of numbers are all in bounds, and
// where there was none the reading has failed already.
func number(text string) value.Value {
	n, _ := strconv.ParseInt(text, 10, 64)
	return value.Value{Kind: value.Int, Number: n}
}
