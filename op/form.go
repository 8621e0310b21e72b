package op

import (
	"slices"

	"cistern/api"
)

// The words of a form that stand for a field.
const (
	nameField  = "NAME"
	otherField = "OTHER"
	fromField  = "FROM"
	toField    = "TO"
	dataField  = "DATA"
)

const mostWords = 4

// form is the words of a kind's line, with nothing behind the last one. It says all of the kind: it uses the fields that stand
// there, and its bytes have them in the same order.
type form [mostWords]string

// forms has the form of each kind, and none for 0, which is no kind.
var forms = [...]form{
	api.OpCreate:  {"create", nameField, toField},
	api.OpSnap:    {"snap", nameField, "of", otherField},
	api.OpClone:   {"clone", nameField, "of", otherField},
	api.OpResize:  {"resize", nameField, toField},
	api.OpRename:  {"rename", nameField, "to", otherField},
	api.OpDelete:  {"delete", nameField},
	api.OpRestore: {"restore", nameField, "from", otherField},
	api.OpWrite:   {"write", nameField, fromField, dataField},
	api.OpDiscard: {"discard", nameField, fromField, toField},
	api.OpFill:    {"fill", nameField, fromField, toField},
	api.OpExtend:  {"extend", toField},
}

// formOf gives the form of a kind, false: there is none of that kind.
func formOf(kind int) (form, bool) {
	if !isWithin(kind, api.OpCreate, api.OpExtend) {
		return form{}, false
	}
	return forms[kind], true
}

// kindOf gives the kind whose line begins with a word, false: there is none.
func kindOf(word string) (int, bool) {
	for kind := api.OpCreate; kind <= api.OpExtend; kind++ {
		if forms[kind][0] == word {
			return kind, true
		}
	}
	return 0, false
}

func (f form) words() []string {
	end := slices.Index(f[:], "")
	if end < 0 {
		end = mostWords
	}
	return f[:end]
}

func (f form) has(field string) bool { return slices.Contains(f[:], field) }

// isFormOf tells whether all fields of an operation that do not stand in the form are zero.
func (f form) isFormOf(o api.Op) bool {
	return (f.has(nameField) || o.Name == "") &&
		(f.has(otherField) || o.Other == "") &&
		(f.has(fromField) || o.From == 0) &&
		(f.has(toField) || o.To == 0) &&
		(f.has(dataField) || len(o.Data) == 0)
}

func sizeMayBe(o api.Op) bool {
	switch o.Kind {
	case api.OpCreate, api.OpResize:
		return isWithin(o.To, 1, api.MaxSize)
	case api.OpExtend:
		return isWithin(o.To, 1, api.MaxCapacity)
	}
	return true
}

func rangeMayBe(o api.Op) bool {
	isRange := o.From >= 0 && o.To <= api.MaxSize && o.From <= o.To
	switch o.Kind {
	case api.OpWrite:
		return isWithin(o.From, 0, api.MaxSize-1)
	case api.OpDiscard:
		return isRange
	case api.OpFill:
		return isRange && o.To-o.From <= api.MaxFill
	}
	return true
}

func isWithin(n int, least int, most int) bool { return n >= least && n <= most }
