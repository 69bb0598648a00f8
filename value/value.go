// Package value has the values of a model and their types.
package value

import (
	"slices"
	"strconv"

	"wicket/api"
)

// Kind is what a value is, and what a type is made of.
type Kind int

const (
	Nothing Kind = iota // of a type: there is none
	Int
	Bool
	Word
	Wrong // of a value alone
)

// Value is one value; what its kind does not need is left at zero, so that
// two values are the same if == says so.
type Value struct {
	Kind   Kind
	Number int64
	Truth  bool
	Text   string // of a word, without its quotation marks
}

// OfInt is an int.
func OfInt(number int64) Value { return Value{Kind: Int, Number: number} }

// OfBool is a bool.
func OfBool(truth bool) Value { return Value{Kind: Bool, Truth: truth} }

// String is the value as it is written.
func (v Value) String() string {
	switch v.Kind {
	case Int:
		return strconv.FormatInt(v.Number, 10)
	case Bool:
		return strconv.FormatBool(v.Truth)
	case Word:
		return `"` + v.Text + `"`
	case Wrong:
		return "error"
	}
	return "null"
}

// Type is int, bool or a list of words in its order; two types are the same
// if == says so.
type Type struct {
	Kind  Kind
	Count int // of the words
	Words [api.MaxWords]string
}

// Has tells whether a word is one of the type's.
func (t Type) Has(word string) bool {
	return slices.Contains(t.Words[:t.Count], word)
}

// With is the type with one word more; a word for which there is no room is left out.
func (t Type) With(word string) Type {
	if t.Count < len(t.Words) {
		t.Words[t.Count] = word
		t.Count++
	}
	return t
}

// Holds tells whether a value can be of the type; nothing can be of any.
func (t Type) Holds(v Value) bool {
	switch v.Kind {
	case Nothing:
		return true
	case Word:
		return t.Kind == Word && t.Has(v.Text)
	}
	return t.Kind == v.Kind
}

// Read is the value of the type that is written so, if there is one. What is
// guessed is written again, since a value is written in one way alone.
func (t Type) Read(written string) (Value, bool) {
	v := t.guess(written)
	if v.String() != written {
		return Value{}, false
	}
	return v, true
}

// guess is the value that is written so, or any other of the type. A word is
// the type's own, so that what is written need not be kept.
func (t Type) guess(written string) Value {
	v := Value{Kind: t.Kind}
	switch t.Kind {
	case Int:
		v.Number, _ = strconv.ParseInt(written, 10, 64)
	case Bool:
		v.Truth = written == strconv.FormatBool(true)
	case Word:
		for _, v.Text = range t.Words[:t.Count] {
			if v.String() == written {
				break
			}
		}
	}
	return v
}
