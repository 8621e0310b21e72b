package lex

import (
	"iter"
	"strings"

	"cistern/api"
)

// scanner goes through a text, byte by byte.
type scanner struct {
	text string
	at   int // the place that it has come to
}

// tokens goes through the tokens, up to the first error. What stands beside that has only its place.
func (s *scanner) tokens() iter.Seq2[api.Token, api.Errno] {
	return func(yield func(api.Token, api.Errno) bool) {
		for count := 0; s.skip(); count++ {
			t, e := s.next(count)
			if !yield(t, e) || e != api.OK {
				return
			}
		}
	}
}

// skip goes on to what is no blank and in no comment, false: there is nothing more.
func (s *scanner) skip() bool {
	for !s.isAtEnd() {
		switch s.text[s.at] {
		case ' ', '\t', '\n', '\r':
			s.at++
		case '#':
			s.pass(isOfLine)
		default:
			return true
		}
	}
	return false
}

// next takes the token that stands behind so many others.
func (s *scanner) next(count int) (api.Token, api.Errno) {
	if count == api.MaxTokens {
		return refused(s.at, api.ErrLexMany)
	}
	return s.token()
}

// token takes the token that begins here, where a byte stands.
func (s *scanner) token() (api.Token, api.Errno) {
	take := begun(s.text[s.at])
	if take == nil {
		return refused(s.at, api.ErrLexByte)
	}
	return take(s)
}

// begun tells by its first byte how a token is taken, nil: none begins so.
func begun(b byte) func(*scanner) (api.Token, api.Errno) {
	switch b {
	case '"':
		return (*scanner).name
	case ';', '{', '}', '(', ')', ',', '=', '<', '+', '-', '*', '/', '%':
		return (*scanner).mark
	case '0', '1', '2', '3', '4', '5', '6', '7', '8', '9':
		return (*scanner).number
	}
	if isLetter(b) {
		return (*scanner).word
	}
	return nil
}

func (s *scanner) word() (api.Token, api.Errno) {
	from := s.at
	s.pass(isOfWord)
	return api.Token{Kind: api.TokenWord, Text: s.text[from:s.at], At: from}, api.OK
}

func (s *scanner) mark() (api.Token, api.Errno) {
	from := s.at
	s.at++
	return api.Token{Kind: api.TokenMark, Text: s.text[from:s.at], At: from}, api.OK
}

func (s *scanner) number() (api.Token, api.Errno) {
	from := s.at
	value := s.digits()
	value *= s.unit()
	if value > api.MaxNumber || !s.isAtEnd() && isOfWord(s.text[s.at]) {
		return refused(from, api.ErrLexNumber)
	}
	return api.Token{Kind: api.TokenNumber, Number: value, At: from}, api.OK
}

// digits takes all digits that stand here. A value above what may be is held just above it: so it never wraps round, times the
// unit neither.
func (s *scanner) digits() int {
	from := s.at
	s.pass(isDigit)
	value := 0
	for _, digit := range []byte(s.text[from:s.at]) {
		value = min(10*value+int(digit-'0'), api.MaxNumber+1)
	}
	return value
}

// unit takes the letter that makes a number many times itself, if it stands here.
func (s *scanner) unit() int {
	if s.stands('K') {
		s.at++
		return 1 << 10
	}
	if s.stands('M') {
		s.at++
		return 1 << 20
	}
	return 1
}

func (s *scanner) name() (api.Token, api.Errno) {
	from := s.at
	isWithin := false // between ${ and its }
	for s.at++; !s.isAtEnd(); s.at++ {
		b := s.text[s.at]
		switch {
		case b == '"' && !isWithin:
			s.at++
			return api.Token{Kind: api.TokenName, Text: s.text[from+1 : s.at-1], At: from}, api.OK
		case b == '}' && isWithin:
			isWithin = false
		case strings.HasPrefix(s.text[s.at:], "${") && !isWithin:
			s.at++
			isWithin = true
		case !isOfName(b):
			return refused(s.at, api.ErrLexQuote)
		}
	}
	return refused(from, api.ErrLexQuote)
}

func (s *scanner) isAtEnd() bool { return s.at == len(s.text) }

func (s *scanner) stands(b byte) bool { return !s.isAtEnd() && s.text[s.at] == b }

// pass goes on behind all bytes that are so.
func (s *scanner) pass(is func(b byte) bool) {
	for !s.isAtEnd() && is(s.text[s.at]) {
		s.at++
	}
}

// refused gives an error with its place.
func refused(at int, e api.Errno) (api.Token, api.Errno) { return api.Token{At: at}, e }

func isLetter(b byte) bool { return b >= 'a' && b <= 'z' || b >= 'A' && b <= 'Z' || b == '_' }

func isDigit(b byte) bool { return b >= '0' && b <= '9' }

func isOfWord(b byte) bool { return isLetter(b) || isDigit(b) }

func isOfLine(b byte) bool { return b != '\n' }

// isOfName tells whether a byte may stand in a name for itself, outside of ${ and } and within.
func isOfName(b byte) bool {
	switch b {
	case '"', '$', '{', '}':
		return false
	}
	return b >= ' ' && b <= '~'
}
