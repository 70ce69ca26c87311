package serial

import (
	"slices"

	"signet/api"
	"signet/b64"
	"signet/header"
	"signet/jws"
	"signet/jwt"
)

// kids: those whose tokens hold, and how many tokens of each do. One key that signs twice counts once.
type kids map[string]int

// inOrder: a map is gone through in any order, so the kids are sorted ahead of being told.
func (k kids) inOrder() []string {
	l := make([]string, 0, len(k))
	for kid := range k {
		l = append(l, kid)
	}
	slices.Sort(l)
	return l
}

// holding: the claims of the first token that holds, and the kids of all that do.
func holding(tokens []string, keys string, p api.Policy, now int64) (api.Claims, kids) {
	var first api.Claims
	held := kids{}
	for _, token := range tokens {
		c, code := jwt.Verify(token, keys, p, now)
		if code != api.OK {
			continue
		}
		if len(held) == 0 {
			first = c
		}
		held[kidOf(token)]++
	}
	return first, held
}

// kidOf: of a token that holds, so that nothing is refused any more on the way to its header.
func kidOf(token string) string {
	head, _, _, _ := jws.Split(token)
	text, _, _ := b64.Decode(head)
	h, _ := header.Parse(string(text))
	return h.Kid
}
