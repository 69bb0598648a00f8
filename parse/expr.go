package parse

import (
	"slices"

	"wicket/api"
	"wicket/token"
	"wicket/tree"
)

var operations = [...]tree.Kind{
	token.Or:    tree.Or,
	token.And:   tree.And,
	token.Equal: tree.Equal,
	token.Less:  tree.Less,
	token.Plus:  tree.Add,
	token.Minus: tree.Subtract,
	token.Star:  tree.Multiply,
	token.Slash: tree.Divide,
}

func (p *parser) expr() *tree.Node {
	if p.next() != token.If {
		return p.or()
	}
	p.open(token.If)
	condition := p.expr()
	p.want(token.Then)
	one := p.expr()
	p.want(token.Else)
	other := p.expr()
	p.nesting--
	return join(tree.If, condition, one, other)
}

// open takes a token that nests, unless it nests too deep.
func (p *parser) open(kind token.Kind) {
	if p.nesting == api.MaxNest {
		p.fail()
	}
	p.want(kind)
	p.nesting++
}

func (p *parser) or() *tree.Node { return p.row(p.and, token.Or) }

func (p *parser) and() *tree.Node { return p.row(p.not, token.And) }

func (p *parser) not() *tree.Node {
	if p.has(token.Not) {
		return join(tree.Not, p.not())
	}
	return p.comparison()
}

func (p *parser) comparison() *tree.Node {
	left := p.sum()
	if kind := p.next(); kind == token.Equal || kind == token.Less {
		p.want(kind)
		return join(operations[kind], left, p.sum())
	}
	return left
}

func (p *parser) sum() *tree.Node { return p.row(p.product, token.Plus, token.Minus) }

func (p *parser) product() *tree.Node { return p.row(p.atom, token.Star, token.Slash) }

// row reads parts with signs of one level between them, from left to right.
func (p *parser) row(part func() *tree.Node, signs ...token.Kind) *tree.Node {
	left := part()
	for slices.Contains(signs, p.next()) {
		kind := p.next()
		p.want(kind)
		left = join(operations[kind], left, part())
	}
	return left
}

func (p *parser) atom() *tree.Node {
	switch p.next() {
	case token.Open:
		p.open(token.Open)
		inner := p.expr()
		p.want(token.Close)
		p.nesting--
		return inner
	case token.Name:
		return &tree.Node{Kind: tree.Name, Item: p.use()}
	case token.Null:
		p.want(token.Null)
		return &tree.Node{Kind: tree.Literal}
	}
	return &tree.Node{Kind: tree.Literal, Value: p.value()}
}

func join(kind tree.Kind, parts ...*tree.Node) *tree.Node {
	return &tree.Node{Kind: kind, Parts: parts}
}
