package idtoken

import (
	"math"
	"slices"

	"signet/api"
	"signet/json"
)

// maxAge: the greatest age that a client may allow, in seconds.
const maxAge = 1 << 31

// question: claims, and what is wanted of them.
type question struct {
	claims api.Claims
	alg    api.Alg
	want   api.Want
	now    int64
	shaped bool
}

// step: a reason to refuse, and whether it applies to one question.
type step struct {
	refuses func() bool
	code    api.Errno
}

// steps: in the order in which they are asked. Each tells of itself alone; but the last one reckons with the bounds that the first one keeps.
func (q *question) steps() []step {
	return []step{
		{q.hasBadWant, api.ErrPolicy},
		{q.hasNoAlg, api.ErrAlg},
		{q.lacksClaim, api.ErrMissing},
		{q.isForOthers, api.ErrAud},
		{q.hasOtherParty, api.ErrAzp},
		{q.hasOtherNonce, api.ErrNonce},
		{q.hasOtherHash, api.ErrHash},
		{q.isTooOld, api.ErrAge},
	}
}

func (q *question) hasBadWant() bool {
	w := q.want
	if w.Leeway < 0 || w.Leeway > api.MaxLeeway {
		return true
	}
	return w.HasAge && (w.MaxAge < 0 || w.MaxAge > maxAge)
}

func (q *question) hasNoAlg() bool { return hashOf(q.alg) == noHash }

func (q *question) lacksClaim() bool {
	c := q.claims
	return !c.HasIss || !c.HasSub || !c.HasAud || !c.Exp.Has || !c.Iat.Has
}

func (q *question) isForOthers() bool { return !slices.Contains(q.claims.Aud, q.want.Client) }

// hasOtherParty: a token for others too must say that it was made for this client.
func (q *question) hasOtherParty() bool {
	client := q.want.Client
	if _, there := q.member("azp"); there {
		return !q.says("azp", client)
	}
	return slices.ContainsFunc(q.claims.Aud, func(aud string) bool { return aud != client })
}

func (q *question) hasOtherNonce() bool { return q.want.HasNonce && !q.says("nonce", q.want.Nonce) }

func (q *question) hasOtherHash() bool {
	w := q.want
	return w.HasAccess && !q.saysHalf("at_hash", w.Access) || w.HasCode && !q.saysHalf("c_hash", w.Code)
}

func (q *question) isTooOld() bool {
	if !q.want.HasAge {
		return false
	}
	since, there := q.member("auth_time")
	if !there || !since.Whole {
		return true
	}
	// The first step has bounded both; the time has no bound, and where the sum lies behind all clocks none is above it.
	allowed := q.want.MaxAge + q.want.Leeway
	return since.Int <= math.MaxInt64-allowed && q.now > since.Int+allowed
}

// member: the first node of a member of the payload.
func (q *question) member(name string) (n api.Node, there bool) {
	// The claims may be made by hand, and of a value that is not well shaped json promises no places.
	if !q.shaped {
		return api.Node{}, false
	}
	at := json.Member(q.claims.Value, 0, name)
	if at < 0 {
		return api.Node{}, false
	}
	return q.claims.Value[at], true
}

// says: is there a member of that name that is a string of just that text? The texts of other kinds count for nothing.
func (q *question) says(name, text string) bool {
	n, _ := q.member(name)
	return n.Kind == api.String && n.Text == text
}

func (q *question) saysHalf(name, text string) bool {
	half, code := Half(q.alg, text)
	return code == api.OK && q.says(name, half)
}
