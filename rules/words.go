package rules

import "strings"

// kind: what a word is.
type kind int

const (
	noWord kind = iota
	theEnd
	name
	quoted
	figures // a place or a number
	opening
	closing
	dot
	andWord
	orWord
	notWord
	hasWord
	containsWord
	trueWord
	falseWord
	nullWord
	// The comparisons stand in api's order.
	equalSign
	unequalSign
	lessSign
	atMostSign
	moreSign
	atLeastSign
)

// spelled: the words of one spelling.
var spelled = [...]string{
	opening:      "(",
	closing:      ")",
	dot:          ".",
	andWord:      "and",
	orWord:       "or",
	notWord:      "not",
	hasWord:      "has",
	containsWord: "contains",
	trueWord:     "true",
	falseWord:    "false",
	nullWord:     "null",
	equalSign:    "=",
	unequalSign:  "!=",
	lessSign:     "<",
	atMostSign:   "<=",
	moreSign:     ">",
	atLeastSign:  ">=",
}

const longestSign = 2 // bytes

const (
	blanks      = " \t\n\r"
	digits      = "0123456789"
	letters     = "ABCDEFGHIJKLMNOPQRSTUVWXYZabcdefghijklmnopqrstuvwxyz_"
	nameBytes   = letters + digits
	numberBytes = digits + "+-.eE"
)

// wordOf: the word with which the text begins, and its kind. Of figures the kind alone: how far they go hangs on where they stand.
func wordOf(text string) (kind, string) {
	switch {
	case text == "":
		return theEnd, ""
	case text[0] == '"':
		return quotedOf(text)
	case strings.IndexByte("-"+digits, text[0]) >= 0:
		return figures, ""
	case strings.IndexByte(letters, text[0]) >= 0:
		return nameOf(text)
	}
	return signOf(text)
}

// row: the bytes of the set with which the text begins.
func row(text, set string) string {
	return text[:len(text)-len(strings.TrimLeft(text, set))]
}

// quotedOf: a string up to its end, whatever stands in it: if it is no JSON string, it can stand nowhere, and is told where it is asked.
func quotedOf(text string) (kind, string) {
	at := 1
	for at < len(text) && text[at] != '"' {
		if text[at] == '\\' {
			at++
		}
		at++
	}
	if at >= len(text) {
		return noWord, ""
	}
	return quoted, text[:at+1]
}

func nameOf(text string) (kind, string) {
	word := row(text, nameBytes)
	if k := kindOf(word); k != noWord {
		return k, word
	}
	return name, word
}

// signOf: the longest sign with which the text begins: `<=` is one, not two.
func signOf(text string) (kind, string) {
	for size := min(longestSign, len(text)); size > 0; size-- {
		if k := kindOf(text[:size]); k != noWord {
			return k, text[:size]
		}
	}
	return noWord, ""
}

// kindOf: of a word of one spelling; noWord, if it is none.
func kindOf(word string) kind {
	for k, s := range spelled {
		if s == word {
			return kind(k)
		}
	}
	return noWord
}

func isName(part string) bool {
	k, word := wordOf(part)
	return k == name && word == part
}

func isPlace(part string) bool {
	return part == "0" || part != "" && part[0] != '0' && row(part, digits) == part
}
