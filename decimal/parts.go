package decimal

import "strings"

// power: an exponent, as it is written; without digits it is 0.
type power struct {
	minus  bool
	digits string
}

// parts: a number's text, cut.
type parts struct {
	minus           bool
	whole, fraction string
	power           power
}

// The parts with which a number may begin, and those that follow.
const (
	signPart = iota
	wholePart
	fractionPart
	powerPart
)

func firstPart(text string) int {
	if strings.HasPrefix(text, "-") {
		return signPart
	}
	return wholePart
}

// cut: the parts of a number's text; false, if it is none.
func cut(text string) (parts, bool) {
	p, rest, ok := parts{}, text, true
	switch firstPart(text) {
	case signPart:
		p.minus, rest = true, rest[1:]
		fallthrough
	case wholePart:
		p.whole, rest = cutDigits(rest)
		if p.whole == "" || len(p.whole) > 1 && p.whole[0] == '0' {
			return parts{}, false
		}
		fallthrough
	case fractionPart:
		p.fraction, rest, ok = cutFraction(rest)
		if !ok {
			return parts{}, false
		}
		fallthrough
	case powerPart:
		p.power, rest, ok = cutPower(rest)
		if !ok || rest != "" {
			return parts{}, false
		}
	}
	return p, true
}

// cutDigits: the digits at the beginning of the text, and what follows them.
func cutDigits(text string) (digits, rest string) {
	at := 0
	for at < len(text) && '0' <= text[at] && text[at] <= '9' {
		at++
	}
	return text[:at], text[at:]
}

// cutFraction: the digits behind a dot, if the text begins with one; false, if it has none there.
func cutFraction(text string) (digits, rest string, ok bool) {
	if !strings.HasPrefix(text, ".") {
		return "", text, true
	}
	digits, rest = cutDigits(text[1:])
	return digits, rest, digits != ""
}

// cutPower: the exponent, if the text begins with one; false, if it has no digits.
func cutPower(text string) (p power, rest string, ok bool) {
	if !strings.HasPrefix(text, "e") && !strings.HasPrefix(text, "E") {
		return power{}, text, true
	}
	rest = text[1:]
	if strings.HasPrefix(rest, "+") || strings.HasPrefix(rest, "-") {
		p.minus, rest = rest[0] == '-', rest[1:]
	}
	p.digits, rest = cutDigits(rest)
	return p, rest, p.digits != ""
}

// number: the value 0.digits times ten to the sum of power and ahead, below 0 with a minus. The digits have no 0 at either end, so that two texts of one value have the same ones; nought has none.
type number struct {
	minus  bool
	digits string
	ahead  int64
	power  power
}

// read: the number that the text says; false, if it is none.
func read(text string) (number, bool) {
	p, ok := cut(text)
	if !ok {
		return number{}, false
	}
	all := p.whole + p.fraction
	digits := strings.TrimLeft(all, "0")
	noughts := len(all) - len(digits)
	return number{
		minus:  p.minus,
		digits: strings.TrimRight(digits, "0"),
		ahead:  int64(len(p.whole) - noughts),
		power:  p.power,
	}, true
}

// sign: -1, 0 or 1, as the value is below, at or above 0.
func (n number) sign() int {
	switch {
	case n.digits == "":
		return 0
	case n.minus:
		return -1
	}
	return 1
}

// far is more than all digits of two texts together can shift a number by: where two powers are that far from each other, it does not matter how far.
const far = 1 << 40

// difference: a less b; if that is beyond far, on either side, another number that is, on the same side.
func difference(a, b power) int64 {
	d := int64(0)
	for place := max(len(a.digits), len(b.digits)) - 1; place >= 0; place-- {
		d = d*10 + a.digit(place) - b.digit(place)
		// The digits behind take at most 9 from ten times as much: they can't bring it back.
		if d < -far || d > far {
			break
		}
	}
	return d
}

// digit: the power's digit at a place, counted from its end, with the power's sign.
func (p power) digit(place int) int64 {
	if place >= len(p.digits) {
		return 0
	}
	d := int64(p.digits[len(p.digits)-1-place] - '0')
	if p.minus {
		return -d
	}
	return d
}
