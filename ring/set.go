package ring

import (
	"math"

	"signet/api"
	"signet/header"
	"signet/jws"
	"signet/keyset"
)

// set: a key set, and the clock at which it ends.
type set struct {
	text    string
	version int64
	until   int64
	endless bool // it has no until yet, which no number could say: even the greatest clock ends a set
}

func (s set) isLive(now int64) bool { return s.endless || now < s.until }

// has: is the kid there, be it more than once?
func (s set) has(kid string) bool {
	l, _ := keyset.Parse(s.text)
	_, code := keyset.Find(l, kid)
	return code != api.ErrNoKey
}

// endOf: cut where a clock ends; a grace is never below 0.
func endOf(now, grace int64) int64 {
	if now > math.MaxInt64-grace {
		return math.MaxInt64
	}
	return now + grace
}

// counting: the first set that has the token's kid; if there is none, one without keys.
func counting(sets []set, token string) set {
	if kid, ok := kidOf(token); ok {
		for _, s := range sets {
			if s.has(kid) {
				return s
			}
		}
	}
	return set{text: `{"keys":[]}`}
}

// kidOf: false, if the token has no header.
func kidOf(token string) (string, bool) {
	head, _, _, code := jws.Split(token)
	if code != api.OK {
		return "", false
	}
	// By itself: what is wrong with the other parts is refused behind the key.
	text, _, _, code := jws.Decode(head + "..")
	if code != api.OK {
		return "", false
	}
	h, code := header.Parse(string(text))
	return h.Kid, code == api.OK
}
