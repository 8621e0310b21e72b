package op

import (
	"strconv"
	"strings"

	"cistern/api"
)

const hexDigits = "0123456789abcdef"

// lineOf gives the line of an operation that may be.
func lineOf(o api.Op) string {
	var texts []string
	for _, word := range forms[o.Kind].words() {
		texts = append(texts, shown(o, word))
	}
	return strings.Join(texts, " ") + "\n"
}

// shown gives what stands in an operation's line in the place of a word of its form.
func shown(o api.Op, word string) string {
	switch word {
	case nameField:
		return o.Name
	case otherField:
		return o.Other
	case fromField:
		return strconv.Itoa(o.From)
	case toField:
		return strconv.Itoa(o.To)
	case dataField:
		return digitsOf(o.Data)
	}
	return word
}

// operationOf takes an operation from its line, false: it is none's that may be.
func operationOf(line string) (api.Op, bool) {
	body, isWhole := strings.CutSuffix(line, "\n")
	// No more pieces than show that there are too many: a line of blanks alone is not to take many times its own room.
	texts := strings.SplitN(body, " ", mostWords+1)
	kind, isKind := kindOf(texts[0])
	if !isWhole || !isKind {
		return api.Op{}, false
	}
	o := api.Op{Kind: kind}
	words := forms[kind].words()
	if len(texts) != len(words) {
		return api.Op{}, false
	}
	for i, word := range words {
		if !take(&o, word, texts[i]) {
			return api.Op{}, false
		}
	}
	return o, Check(o) == api.OK
}

// take takes what stands in a line in the place of a word of its form, false: it may not stand there. (Which names and numbers
// may be Check tells, when all is taken.)
func take(o *api.Op, word string, text string) bool {
	ok := true
	switch word {
	case nameField:
		o.Name = strings.Clone(text)
	case otherField:
		o.Other = strings.Clone(text)
	case fromField:
		o.From, ok = numberOf(text)
	case toField:
		o.To, ok = numberOf(text)
	case dataField:
		o.Data, ok = bytesOf(text)
	default:
		ok = text == word
	}
	return ok
}

// numberOf takes a number that is written as it is printed, and no other way.
func numberOf(text string) (int, bool) {
	n, err := strconv.Atoi(text)
	return n, err == nil && strconv.Itoa(n) == text
}

func digitsOf(data []byte) string {
	var text strings.Builder
	for _, b := range data {
		text.WriteByte(hexDigits[b>>4])
		text.WriteByte(hexDigits[b&15])
	}
	return text.String()
}

// bytesOf takes the bytes of a block from their digits.
func bytesOf(text string) ([]byte, bool) {
	if len(text) != 2*api.BlockSize {
		return nil, false
	}
	data := make([]byte, api.BlockSize)
	for i := range len(text) {
		digit := strings.IndexByte(hexDigits, text[i])
		if digit < 0 {
			return nil, false
		}
		data[i/2] = data[i/2]<<4 | byte(digit)
	}
	return data, true
}
