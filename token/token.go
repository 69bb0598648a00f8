// Package token parts the text of a model into tokens, and writes tokens as text.
package token

import "strings"

// Kind is what a token is.
type Kind int

const (
	End    Kind = iota // behind the last token
	Bad                // something that is no token
	Name               // of an item
	Number             // from 0 to 9223372036854775807
	Great              // 9223372036854775808: a token behind the `-` of a value alone
	Word               // with its quotation marks
	Ask
	Let
	Table
	Int
	Bool
	Of
	Unique
	First
	Sum
	Count
	Least
	Most
	True
	False
	Null
	If
	Then
	Else
	Or
	And
	Not
	Plus
	Minus
	Star
	Slash
	Equal
	Less
	Greater
	Open
	Close
	OpenSquare
	CloseSquare
	Comma
	Semicolon
	Colon
	Range
)

// spellings has the kinds that are spelt in one way alone.
var spellings = [...]string{
	Ask: "ask", Let: "let", Table: "table",
	Int: "int", Bool: "bool", Of: "of",
	Unique: "unique", First: "first", Sum: "sum", Count: "count", Least: "least", Most: "most",
	True: "true", False: "false", Null: "null",
	If: "if", Then: "then", Else: "else", Or: "or", And: "and", Not: "not",
	Plus: "+", Minus: "-", Star: "*", Slash: "/",
	Equal: "=", Less: "<", Greater: ">",
	Open: "(", Close: ")", OpenSquare: "[", CloseSquare: "]",
	Comma: ",", Semicolon: ";", Colon: ":", Range: "..",
}

// Token is a piece of a text, and the place of its first byte.
type Token struct {
	Kind  Kind
	Place int
	Text  string
}

// spelt tells which kind is always spelt so, or Bad, if none is.
func spelt(text string) Kind {
	for kind, spelling := range spellings {
		if spelling != "" && spelling == text {
			return Kind(kind)
		}
	}
	return Bad
}

// Join writes tokens with one space between each two, but none ahead of `;` and `,`.
func Join(tokens []Token) string {
	var written strings.Builder
	for n, one := range tokens {
		if n > 0 && one.Kind != Semicolon && one.Kind != Comma {
			written.WriteByte(' ')
		}
		written.WriteString(one.Text)
	}
	return written.String()
}
