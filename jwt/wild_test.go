package jwt_test

import (
	"math/rand"
	"slices"
	"strings"
	"testing"

	"signet/api"
)

// wildly: a text with some bytes put in, taken away and changed.
func wildly(r *rand.Rand, s, with string) string {
	b := []byte(s)
	for range 1 + r.Intn(3) {
		at := r.Intn(len(b) + 1)
		switch c := with[r.Intn(len(with))]; {
		case r.Intn(3) == 0 || at == len(b):
			b = slices.Insert(b, at, c)
		case r.Intn(2) == 0:
			b = slices.Delete(b, at, at+1)
		default:
			b[at] = c
		}
	}
	return string(b)
}

const (
	jsonBytes  = `{}[]":,\uaeiskty01.- ` + "\xff\x00"
	tokenBytes = "..AQZaz09-_=+/ \n\x00\xff"
)

func wildPolicy(r *rand.Rand, p api.Policy) api.Policy {
	switch r.Intn(9) {
	case 0:
		p.Leeway = int64(r.Uint64())
	case 1:
		p.Algs = []string{drawnText(r), "none"}
	case 2:
		p.Need = []string{"\xff"}
	case 3:
		p.Iss, p.Aud, p.Typ = "\xff", "\x00", ""
	case 4:
		p.HasAud, p.HasIss = !p.HasAud, !p.HasIss
	}
	return p
}

// P1: tokens, key sets and policies that nearly are some; the header's and the payload's texts are signed as they are.
func TestWild(t *testing.T) {
	t.Parallel()
	r := rand.New(rand.NewSource(11))
	met := map[api.Errno]int{}
	for i := range 4000 {
		c := rows[i%3]
		if i%20 == 0 {
			c = rows[i/20%len(rows)]
		}
		p := right(c)
		head, pay, keys := object(p.head...), object(p.pay...), p.keys()
		switch r.Intn(4) {
		case 0:
			head = wildly(r, head, jsonBytes)
		case 1:
			pay = wildly(r, pay, jsonBytes)
		case 2:
			keys = wildly(r, keys, jsonBytes)
		}
		signing := signs([]byte(head)) + "." + signs([]byte(pay))
		token := signing + "." + signs(p.by.sign(c, signing))
		if r.Intn(5) == 0 {
			token = wildly(r, token, tokenBytes)
		}
		_, code := hold(t, token, keys, wildPolicy(r, p.policy), pick(r, []int64{1500, 0, low, high, 2009, 2010}))
		met[code]++
	}
	for _, code := range []api.Errno{api.OK, api.ErrPolicy, api.ErrDots, api.ErrSign, api.ErrJson, api.ErrHeader, api.ErrBarred, api.ErrSignature, api.ErrClaim, api.ErrMissing, api.ErrIss, api.ErrAud, api.ErrExpired, api.ErrEarly} {
		if met[code] == 0 {
			t.Fatalf("none of %d: %v", int(code), met)
		}
	}
}

// Texts of any bytes.
func TestWildTexts(t *testing.T) {
	t.Parallel()
	r := rand.New(rand.NewSource(12))
	p := api.Policy{Algs: namesOfAll()}
	for range 20000 {
		token, keys := make([]byte, r.Intn(40)), make([]byte, r.Intn(20))
		for i := range token {
			token[i] = tokenBytes[r.Intn(len(tokenBytes))]
		}
		for i := range keys {
			keys[i] = jsonBytes[r.Intn(len(jsonBytes))]
		}
		hold(t, string(token), string(keys), p, 0)
	}
	hold(t, "", "", api.Policy{}, 0)
	hold(t, "..", "", api.Policy{}, low)
}

// Every beginning and every end of a token, and of a key set.
func TestCut(t *testing.T) {
	t.Parallel()
	p := right(rows[0])
	token, keys := p.token(), p.keys()
	for i := range token {
		hold(t, token[:i], keys, p.policy, p.now)
		hold(t, token[i:], keys, p.policy, p.now)
	}
	for i := range keys {
		hold(t, token, keys[:i], p.policy, p.now)
		hold(t, token, keys[i:], p.policy, p.now)
	}
}

func FuzzCalls(f *testing.F) {
	for _, c := range rows {
		p := right(c)
		f.Add(object(p.head...), object(p.pay...), object(p.key...), "you", "exp jti", int64(10), int64(1500), 7, "")
	}
	f.Fuzz(func(t *testing.T, head, pay, key, aud, need string, leeway, now int64, mask int, raw string) {
		c := rows[0]
		p := right(c)
		p.policy.Algs = namesOfAll()
		p.policy.Aud, p.policy.Need, p.policy.Leeway = aud, strings.Fields(need), leeway
		p.policy.HasAud, p.policy.HasIss, p.policy.HasTyp = mask&1 != 0, mask&2 != 0, mask&4 != 0
		for _, keys := range []string{p.keys(), set(key), set(key, object(p.key...)), key, raw} {
			signing := signs([]byte(head)) + "." + signs([]byte(pay))
			hold(t, signing+"."+signs(p.by.sign(c, signing)), keys, p.policy, now)
			hold(t, signing+"."+raw, keys, p.policy, now)
			hold(t, raw, keys, p.policy, now)
		}
	})
}
