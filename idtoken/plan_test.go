package idtoken_test

import (
	"fmt"
	"math/rand"
	"slices"
	"testing"

	"signet/api"
)

// plan: which of the eight steps are to refuse, told ahead of what they are given.
type plan [8]bool

func drawnPlan(r *rand.Rand) plan {
	var p plan
	for i := range p {
		p[i] = r.Intn(9) == 0
	}
	return p
}

// code: that of the first step that is to refuse.
func (p plan) code() api.Errno {
	for i, refuses := range p {
		if refuses {
			return codes[i]
		}
	}
	return api.OK
}

// pick2: a value of the one list or of the other one.
func pick2[T any](r *rand.Rand, wrong bool, bad, good []T) T {
	if wrong {
		return pick(r, bad)
	}
	return pick(r, good)
}

// laid: claims, an algorithm, a want and a clock that fulfil the plan; how, is drawn.
func (p plan) laid(t testing.TB, r *rand.Rand) (api.Claims, api.Alg, api.Want, int64) {
	t.Helper()
	a := pick2(r, p[1], noAlgs, []api.Alg{pick(r, algs).alg})
	w := api.Want{Client: drawnText(r), Nonce: drawnText(r), Access: drawnText(r), Code: drawnText(r), MaxAge: drawnTime(r)}
	w.Leeway = pick(r, []int64{0, 600, int64(r.Intn(601))})
	members := slices.Concat(p.parties(r, w.Client), p.nonce(r, &w), p.hashes(r, a, &w))
	age, now := p.age(r, &w)
	if members = append(members, age...); p[0] {
		spoilBounds(r, &w)
	}
	return parsed(t, text(r, slices.Concat(p.needed(r, members), others(r))...)), a, w, now
}

func spoilBounds(r *rand.Rand, w *api.Want) {
	if r.Intn(2) == 0 {
		w.Leeway = pick(r, []int64{-1, 601, low, high, -int64(r.Intn(1000)) - 1, int64(r.Uint64()>>1) | 1024})
		return
	}
	w.HasAge, w.MaxAge = true, pick(r, []int64{-1, 1<<31 + 1, low, high, -int64(r.Intn(1000)) - 1, int64(r.Uint64()>>1) | 1<<40})
}

// needed: the members, and those beside them that every ID token has; or some of these, if that is to be refused.
func (p plan) needed(r *rand.Rand, members []memberText) []memberText {
	members = append(members, memberText{"iss", spelled(r, drawnText(r))}, memberText{"sub", spelled(r, drawnText(r))}, memberText{"exp", fmt.Sprint(drawnTime(r))}, memberText{"iat", fmt.Sprint(drawnTime(r))})
	if !p[2] {
		return members
	}
	less := pick(r, []string{"iss", "sub", "aud", "exp", "iat"})
	return slices.DeleteFunc(members, func(m memberText) bool {
		return m.name == less || r.Intn(5) == 0 && slices.Contains([]string{"iss", "sub", "exp", "iat"}, m.name)
	})
}

// parties: aud and azp, for the steps 4 and 5.
func (p plan) parties(r *rand.Rand, client string) []memberText {
	var aud []string
	for range r.Intn(4) {
		aud = append(aud, drawnText(r)+"!")
	}
	if !p[3] {
		aud = slices.Insert(aud, r.Intn(len(aud)+1), client)
	}
	azp := memberText{"azp", spelled(r, client)}
	if p[4] {
		azp.value = pick(r, append([]string{spelled(r, client+"!"), spelled(r, "!"+client)}, otherKinds...))
	}
	others := slices.ContainsFunc(aud, func(s string) bool { return s != client })
	// Whether others are meant tells whether it may be left out.
	if others == p[4] && r.Intn(2) == 0 {
		return []memberText{{"aud", spelledAud(r, aud)}}
	}
	return []memberText{{"aud", spelledAud(r, aud)}, azp}
}

func (p plan) nonce(r *rand.Rand, w *api.Want) []memberText {
	w.HasNonce = p[5] || r.Intn(2) == 0
	return said(r, "nonce", w.Nonce, w.HasNonce, p[5])
}

func (p plan) hashes(r *rand.Rand, a api.Alg, w *api.Want) []memberText {
	w.HasAccess, w.HasCode = r.Intn(2) == 0, r.Intn(2) == 0
	one, _ := wantHalf(a, w.Access)
	two, _ := wantHalf(a, w.Code)
	wrong := 0
	if p[6] {
		wrong = 1 + r.Intn(3)
		w.HasAccess, w.HasCode = w.HasAccess || wrong&1 == 1, w.HasCode || wrong&2 == 2
	}
	return append(said(r, "at_hash", one, w.HasAccess, wrong&1 == 1), said(r, "c_hash", two, w.HasCode, wrong&2 == 2)...)
}

// said: a member that says the text, or another one, or none; if it is not wanted, whatever it likes.
func said(r *rand.Rand, name, right string, wanted, wrong bool) []memberText {
	if !wanted {
		wrong = r.Intn(2) == 0
	}
	switch {
	case !wrong:
		return []memberText{{name, spelled(r, right)}}
	case r.Intn(3) == 0:
		return nil
	}
	return []memberText{{name, pick(r, append([]string{spelled(r, right+"!"), spelled(r, "!"+right)}, otherKinds...))}}
}

// age: auth_time, and a clock for the step 8.
func (p plan) age(r *rand.Rand, w *api.Want) ([]memberText, int64) {
	w.HasAge = p[7] || r.Intn(2) == 0
	if !w.HasAge {
		return said(r, "auth_time", "0", false, false), drawnTime(r)
	}
	w.MaxAge = pick(r, []int64{0, 1 << 31, int64(r.Intn(1<<31 + 1))})
	most := w.MaxAge + w.Leeway
	switch {
	case !p[7]:
		since := drawnTime(r)
		last := int64(high)
		if since <= high-most {
			last = since + most
		}
		return []memberText{{"auth_time", fmt.Sprint(since)}}, pick(r, []int64{last, low, min(last, drawnTime(r))})
	case r.Intn(3) == 0:
		return []memberText{{"auth_time", pick(r, []string{`1.0`, `1e3`, `-0.0`, `9223372036854775808`, `"0"`, `null`, `[0]`, `{}`})}}, drawnTime(r)
	case r.Intn(3) == 0:
		return nil, drawnTime(r)
	}
	since := min(drawnTime(r), high-most-1)
	end := since + most
	return []memberText{{"auth_time", fmt.Sprint(since)}}, pick(r, []int64{end + 1, high, max(end+1, drawnTime(r))})
}

// The order of the refusals, and 22.3: every set of steps that are to refuse, each for a drawn reason, has the code of the first one.
func TestEveryPlan(t *testing.T) {
	t.Parallel()
	r := rand.New(rand.NewSource(2))
	for mask := range 256 {
		var p plan
		for i := range p {
			p[i] = mask>>i&1 == 1
		}
		for range 60 {
			c, a, w, now := p.laid(t, r)
			mustCheck(t, p.code(), c, a, w, now)
		}
	}
}

// Each step alone, many times: what it does not name changes nothing of whether it refuses.
func TestEachByItself(t *testing.T) {
	t.Parallel()
	r := rand.New(rand.NewSource(3))
	for step := range 9 {
		var p plan
		if step < 8 {
			p[step] = true
		}
		for range 1200 {
			c, a, w, now := p.laid(t, r)
			mustCheck(t, p.code(), c, a, w, now)
		}
	}
}
