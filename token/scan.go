package token

import (
	"strconv"
	"strings"
	"unicode/utf8"

	"wicket/api"
)

// state is what the scanner is in the midst of.
type state int

const (
	between state = iota
	inLetters
	inDigits
	inWord
	inPoints
)

const tooGreatByOne = "9223372036854775808"

type scanner struct {
	text   string
	tokens []Token
	state  state
	from   int // where the thing begins that it is in the midst of
	runes  int // of the word so far
}

// Scan parts a text into tokens. The last one is End or, as soon as there is
// something that is no token, Bad: nothing behind that can be of weight.
func Scan(text string) []Token {
	s := scanner{text: text}
	for at, r := range text {
		if !s.step(at, r) {
			return s.bad()
		}
	}
	if s.state == inWord || s.state == inPoints || !s.closeRow(len(text)) {
		return s.bad()
	}
	return append(s.tokens, Token{Kind: End, Place: len(text)})
}

// step takes one rune, and tells whether all is still made of tokens.
func (s *scanner) step(at int, r rune) bool {
	switch {
	case s.state == inWord:
		return s.stepWord(at, r)
	case s.state == inPoints:
		return s.stepPoints(at, r)
	case s.state == inLetters && isLetter(r), s.state == inDigits && isDigit(r):
		return true
	}
	return s.closeRow(at) && s.begin(at, r)
}

// begin takes a rune that stands behind a whole token, or behind spaces.
func (s *scanner) begin(at int, r rune) bool {
	s.from = at
	switch {
	case r == ' ' || r == '\n':
	case isLetter(r):
		s.state = inLetters
	case isDigit(r):
		s.state = inDigits
	case r == '"':
		s.state, s.runes = inWord, 0
	case r == '.':
		s.state = inPoints
	default:
		return s.end(spelt(string(r)), at+1)
	}
	return true
}

func (s *scanner) stepWord(at int, r rune) bool {
	if r == '"' {
		return s.end(Word, at+1)
	}
	s.runes++
	return r >= ' ' && s.runes <= api.MaxWord && isUTF8(s.text[at:], r)
}

func (s *scanner) stepPoints(at int, r rune) bool {
	return r == '.' && s.end(Range, at+1)
}

// closeRow ends the row of letters or digits that is open, if one is.
func (s *scanner) closeRow(to int) bool {
	switch s.state {
	case inLetters:
		return s.end(kindOfLetters(s.text[s.from:to]), to)
	case inDigits:
		return s.end(kindOfDigits(s.text[s.from:to]), to)
	}
	return true
}

// end makes a token of what was begun, unless it is none. Its text is a copy,
// so that a model does not hold on to the text that it was read from.
func (s *scanner) end(kind Kind, to int) bool {
	if kind == Bad {
		return false
	}
	s.tokens = append(s.tokens, Token{kind, s.from, strings.Clone(s.text[s.from:to])})
	s.state = between
	return true
}

func (s *scanner) bad() []Token {
	return append(s.tokens, Token{Kind: Bad, Place: s.from})
}

func kindOfLetters(row string) Kind {
	if len(row) > api.MaxName {
		return Bad
	}
	if kind := spelt(row); kind != Bad {
		return kind
	}
	return Name
}

func kindOfDigits(row string) Kind {
	if row == tooGreatByOne {
		return Great
	}
	_, err := strconv.ParseInt(row, 10, 64)
	if err != nil || len(row) > 1 && row[0] == '0' {
		return Bad
	}
	return Number
}

func isLetter(r rune) bool { return 'a' <= r && r <= 'z' }

func isDigit(r rune) bool { return '0' <= r && r <= '9' }

// isUTF8 tells a rune that stands in the text from one that ranging puts in
// the place of bytes that are none.
func isUTF8(text string, r rune) bool {
	return r != utf8.RuneError || strings.HasPrefix(text, string(utf8.RuneError))
}
