package syntax

import (
	"cistern/api"
	"cistern/lex"
)

// isWord tells whether a text is a WORD of the grammar. One that is too long for any plan's text is one all the same.
func isWord(text string) bool {
	_, e := lex.Untoken([]api.Token{{Kind: api.TokenWord, Text: text}})
	return e != api.ErrLexToken && !isReserved(text)
}

func isReserved(word string) bool {
	switch word {
	case "let", "volume", "from", "size", "thick", "snapshot", "of", "keep", "absent", "rename", "to", "exact", "repeat", "when", "else",
		"or", "and", "not", "min", "max", "free", "exists":
		return true
	}
	return false
}
