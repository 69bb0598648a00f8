// Package value has the values of a model and their types.
package value

import (
	"slices"
	"strconv"

	"wicket/api"
)

// Kind is what a value is, and what a type is made of.
type Kind int

const (
	Nothing Kind = iota // of a type: there is none
	Int
	Bool
	Word
)

// Value is one value; what its kind does not need is left at zero, so that
// two values are the same if == says so.
type Value struct {
	Kind   Kind
	Number int64
	Truth  bool
	Text   string // of a word, without its quotation marks
}

// String is the value as it is written.
func (v Value) String() string {
	switch v.Kind {
	case Int:
		return strconv.FormatInt(v.Number, 10)
	case Bool:
		return strconv.FormatBool(v.Truth)
	case Word:
		return `"` + v.Text + `"`
	}
	return "null"
}

// Type is int, bool or a list of words in its order; two types are the same
// if == says so.
type Type struct {
	Kind  Kind
	Count int // of the words
	Words [api.MaxWords]string
}

// Has tells whether a word is one of the type's.
func (t Type) Has(word string) bool {
	return slices.Contains(t.Words[:t.Count], word)
}

// With is the type with one word more; a word for which there is no room is left out.
func (t Type) With(word string) Type {
	if t.Count < len(t.Words) {
		t.Words[t.Count] = word
		t.Count++
	}
	return t
}

// Holds tells whether a value can be of the type; nothing can be of any.
func (t Type) Holds(v Value) bool {
	switch v.Kind {
	case Nothing:
		return true
	case Word:
		return t.Kind == Word && t.Has(v.Text)
	}
	return t.Kind == v.Kind
}
