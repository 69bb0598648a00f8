// Package parse reads the items of a model and finds what their names stand for.
package parse

import (
	"slices"
	"strings"

	"wicket/api"
	"wicket/token"
	"wicket/tree"
	"wicket/value"
)

// parser goes from token to token. It never goes past the last one, which is
// End or Bad and which nothing takes: there it stands once it has failed, so
// that all that is still open comes to its end without a word more.
type parser struct {
	tokens    []token.Token
	at        int
	nesting   int
	items     []tree.Item
	failed    bool
	failedAt  int
	misnamed  bool
	misnameAt int
}

// Items reads a text; beside an error it tells the place of it.
func Items(text string) ([]tree.Item, api.Errno, int) {
	p := parser{tokens: token.Scan(text)}
	p.model()
	switch {
	case p.failed:
		return nil, api.ErrSyntax, p.failedAt
	case p.misnamed:
		return nil, api.ErrName, p.misnameAt
	}
	return p.items, api.OK, 0
}

func (p *parser) next() token.Kind { return p.tokens[p.at].Kind }

// fail finds fault with the next token, if it is the first fault.
func (p *parser) fail() {
	if p.failed {
		return
	}
	p.failed, p.failedAt = true, p.tokens[p.at].Place
	p.at = len(p.tokens) - 1
}

// has takes the next token, if it is of this kind.
func (p *parser) has(kind token.Kind) bool {
	if p.next() != kind {
		return false
	}
	p.at++
	return true
}

// want takes the next token, which has to be of this kind.
func (p *parser) want(kind token.Kind) token.Token {
	if !p.has(kind) {
		p.fail()
		return token.Token{}
	}
	return p.tokens[p.at-1]
}

// list reads one thing or more, parted by a sign. The sign ahead of one too
// many is left where it is, for whatever comes behind the list to fail at.
func (p *parser) list(most int, sign token.Kind, read func()) {
	read()
	for n := 1; n < most && p.has(sign); n++ {
		read()
	}
}

func (p *parser) model() {
	p.item()
	for n := 1; n < api.MaxItems && !p.failed && p.next() != token.End; n++ {
		p.item()
	}
	if p.next() != token.End {
		p.fail()
	}
}

// item reads one item. It is among the items only when it is whole, so that
// it cannot name itself.
func (p *parser) item() {
	from := p.at
	var item tree.Item
	switch {
	case p.has(token.Ask):
		item = p.head(tree.Ask)
	case p.has(token.Let):
		item = p.head(tree.Let)
		p.want(token.Equal)
		item.Expr = p.expr()
	case p.has(token.Table):
		item = p.head(tree.Table)
		p.table(&item)
	default:
		p.fail()
	}
	p.want(token.Semicolon)
	item.Tokens = p.tokens[from:p.at]
	p.items = append(p.items, item)
}

// head reads what stands in every item behind its first token.
func (p *parser) head(kind tree.ItemKind) tree.Item {
	name := p.want(token.Name)
	if p.find(name.Text) >= 0 {
		p.misname(name)
	}
	return tree.Item{Kind: kind, Name: name.Text, Type: p.typeOf()}
}

func (p *parser) typeOf() value.Type {
	switch {
	case p.has(token.Int):
		return value.Type{Kind: value.Int}
	case p.has(token.Bool):
		return value.Type{Kind: value.Bool}
	}
	p.want(token.Of)
	words := value.Type{Kind: value.Word}
	p.list(api.MaxWords, token.Comma, func() {
		if p.next() == token.Word && words.Has(unquote(p.tokens[p.at].Text)) {
			p.fail()
		}
		words = words.With(unquote(p.want(token.Word).Text))
	})
	return words
}

func unquote(word string) string { return strings.Trim(word, `"`) }

// use reads a name that is to be one of an item ahead, and finds its number.
func (p *parser) use() int {
	name := p.want(token.Name)
	item := p.find(name.Text)
	if item < 0 {
		p.misname(name)
	}
	return item
}

func (p *parser) find(name string) int {
	return slices.IndexFunc(p.items, func(item tree.Item) bool { return item.Name == name })
}

// misname finds fault with a name, if it is the first such fault. The reading
// goes on, since faults of syntax come ahead of it wherever they are.
func (p *parser) misname(name token.Token) {
	if !p.misnamed {
		p.misnamed, p.misnameAt = true, name.Place
	}
}
