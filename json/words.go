package json

import (
	"strings"
	"unicode/utf8"

	"signet/api"
)

// A letter behind a backslash, and at the same place the byte that it says. (The slash, which may be escaped too, never is when written.)
const (
	escapeLetters = `"\bfnrt`
	escapedBytes  = "\"\\\b\f\n\r\t"
)

const (
	digits      = "0123456789"
	smallDigits = "0123456789abcdef"
	largeDigits = "0123456789ABCDEF"
)

// The first halves of pairs are from firstHigh on, the second ones from firstLow on, up to behindLow; what they say together is from firstPaired on.
const (
	firstHigh, firstLow, behindLow = 0xd800, 0xdc00, 0xe000
	firstPaired                    = 0x10000
)

func (r *reader) literal(word string) bool {
	for i := range len(word) {
		if !r.take(word[i : i+1]) {
			return r.wrong()
		}
	}
	return true
}

// number: its text. Where a number may end it is ended: what follows is not looked at.
func (r *reader) number() (string, bool) {
	from := r.at
	r.take("-")
	if !r.take("0") && !r.digits() {
		return "", r.wrong()
	}
	if r.take(".") && !r.digits() {
		return "", r.wrong()
	}
	if r.take("eE") {
		r.take("+-")
		if !r.digits() {
			return "", r.wrong()
		}
	}
	// A piece of the text would keep all of it.
	return strings.Clone(r.text[from:r.at]), true
}

// digits: one or more of them; false, if there is none.
func (r *reader) digits() bool {
	from := r.at
	for r.take(digits) {
	}
	return r.at > from
}

// quoted: what a string says; its opening quote is the next byte.
func (r *reader) quoted() (string, bool) {
	r.at++
	var said []byte
	for !r.take(`"`) {
		c, ok := r.char()
		if !ok {
			return "", false
		}
		said = utf8.AppendRune(said, c)
	}
	return string(said), true
}

func (r *reader) char() (rune, bool) {
	rest := r.text[r.at:]
	switch {
	case !utf8.FullRuneInString(rest):
		// The text ends here, or in a sequence that could go on.
		r.at = len(r.text)
		return 0, r.wrong()
	case rest[0] == '\\':
		return r.escape()
	case rest[0] < ' ':
		return 0, r.wrong()
	}
	c, size := utf8.DecodeRuneInString(rest)
	if c == utf8.RuneError && size == 1 {
		return 0, r.fail(api.ErrUtf8, r.at)
	}
	r.at += size
	return c, true
}

// escape: the code point that an escape says, or two of them together.
func (r *reader) escape() (rune, bool) {
	place := r.at
	r.at++
	b, ok := r.next()
	switch {
	case !ok:
		return 0, false
	case b == 'u':
		return r.codePoint(place)
	case b == '/':
		return '/', true
	}
	if i := strings.IndexByte(escapeLetters, b); i >= 0 {
		return rune(escapedBytes[i]), true
	}
	return 0, r.fail(api.ErrEscape, place)
}

// next: the next byte of an escape. A text that ends ahead of it is told as ErrJson, as everywhere.
func (r *reader) next() (byte, bool) {
	if r.at == len(r.text) {
		return 0, r.wrong()
	}
	r.at++
	return r.text[r.at-1], true
}

// codePoint: what the digits of an escape say, whose backslash is at the place; if they are the first half of a pair, together with the escape that must follow.
func (r *reader) codePoint(place int) (rune, bool) {
	high, ok := r.unit(place, false)
	if !ok || high < firstHigh || high >= firstLow {
		return high, ok
	}
	for _, sign := range []byte(`\u`) {
		b, ok := r.next()
		if !ok {
			return 0, false
		}
		if b != sign {
			return 0, r.fail(api.ErrEscape, place)
		}
	}
	low, ok := r.unit(place, true)
	return firstPaired + (high-firstHigh)<<10 + (low - firstLow), ok
}

// unit: what four hexadecimal digits say: a second half of a pair just behind a first one.
func (r *reader) unit(place int, second bool) (rune, bool) {
	least := rune(0)
	for bits := 12; bits >= 0; bits -= 4 {
		b, ok := r.next()
		if !ok {
			return 0, false
		}
		digit := hexadecimal(b)
		least |= digit << bits
		if digit < 0 || !awaited(least, least|(1<<bits-1), second) {
			return 0, r.fail(api.ErrEscape, place)
		}
	}
	return least, true
}

// awaited: can one of the code points from least to most stand there?
func awaited(least, most rune, second bool) bool {
	if second {
		return most >= firstLow && least < behindLow
	}
	return least < firstLow || most >= behindLow
}

// hexadecimal: the number of a digit, -1: it is none.
func hexadecimal(b byte) rune {
	return rune(max(strings.IndexByte(smallDigits, b), strings.IndexByte(largeDigits, b)))
}
