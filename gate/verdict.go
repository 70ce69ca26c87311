package gate

import (
	"strconv"
	"strings"
	"sync"

	"signet/api"
	"signet/claims"
	"signet/rules"
)

// The methods here are for those who hold the lock.

// judgeEach lays what judged says of each token into the verdict at its place. The ring answers the tokens of one clock the same in whatever order they come, so each has a goroutine of its own.
func (g *Gate) judgeEach(tokens []string, verdicts []api.Verdict, now int64) {
	var all sync.WaitGroup
	for i, token := range tokens {
		all.Add(1)
		go func() {
			defer all.Done()
			verdicts[i] = g.judged(token, now)
		}()
	}
	all.Wait()
}

// judged: what all say of a token that stand ahead of the book.
func (g *Gate) judged(token string, now int64) api.Verdict {
	c, _, code := g.sets.Verify(token, g.policy, now)
	if code == api.OK {
		code = g.allowed(c)
	}
	if code != api.OK {
		return api.Verdict{Code: code}
	}
	return api.Verdict{Code: api.OK, Claims: c}
}

// allowed: by the rule; and is there what the book needs?
func (g *Gate) allowed(c api.Claims) api.Errno {
	if len(g.rule) > 0 {
		// No code but OK: the rule was read by New, and what the ring takes is an object.
		if holds, _ := rules.Holds(g.rule, c.Value); !holds {
			return api.ErrDenied
		}
	}
	if !c.HasJti || !c.Exp.Has {
		return api.ErrMissing
	}
	return api.OK
}

// admitted: what the book says of a token against which nothing else speaks.
func (g *Gate) admitted(v api.Verdict, now int64) api.Verdict {
	if v.Code != api.OK {
		return v
	}
	// The book refuses a name that is too long ahead of all else, and is then not asked for anything: so Len is as it was.
	code := g.book.Take(nameOf(v.Claims), g.endOf(v.Claims), now)
	if code != api.OK {
		return api.Verdict{Code: code}
	}
	return v
}

// nameOf: that of a token in the book. The issuer's length stands ahead, so that no two pairs of issuer and jti have one name.
func nameOf(c api.Claims) string {
	if !c.HasIss {
		return "-:" + c.Jti
	}
	return strconv.Itoa(len(c.Iss)) + ":" + c.Iss + c.Jti
}

// endOf: the last clock at which exp and leeway let the token by. There is one: the token's own.
func (g *Gate) endOf(c api.Claims) int64 {
	open, _ := claims.Open(c, g.policy.Leeway)
	return open.To
}

// copyOf: the policy in memory of the gate's own.
func copyOf(p api.Policy) api.Policy {
	p.Algs, p.Need = copies(p.Algs), copies(p.Need)
	p.Iss, p.Aud, p.Typ = strings.Clone(p.Iss), strings.Clone(p.Aud), strings.Clone(p.Typ)
	return p
}

func copies(l []string) []string {
	var out []string
	for _, s := range l {
		out = append(out, strings.Clone(s))
	}
	return out
}
