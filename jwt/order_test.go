package jwt_test

import (
	"fmt"
	"math/rand"
	"testing"

	"signet/api"
)

func pick[T any](r *rand.Rand, of []T) T { return of[r.Intn(len(of))] }

// Nothing spoilt: every algorithm's token is taken.
func TestRight(t *testing.T) {
	t.Parallel()
	for _, c := range rows {
		said := mustPlan(t, c.name, api.OK, right(c))
		if said.Iss != "me" || said.Jti != "1" || len(said.Aud) != 2 || said.Exp != (api.Time{Has: true, At: 2000}) || said.Value[0].Kids != 6 {
			t.Fatalf("20.1: %s: %s", c.name, short(said))
		}
	}
}

// One thing spoilt: its code, with every algorithm.
func TestOneFault(t *testing.T) {
	t.Parallel()
	for _, c := range rows {
		for _, f := range faults(c) {
			p := right(c)
			f.spoil(p)
			mustPlan(t, c.name+": "+f.name, f.code, p)
		}
	}
}

// Two things spoilt: the code of the one that stands first in the order of refusals.
func TestTwoFaults(t *testing.T) {
	t.Parallel()
	for _, c := range []row{rows[2], rows[3], rows[11]} {
		l := faults(c)
		for _, f := range l {
			for _, g := range l {
				if f.rank < g.rank {
					p := right(c)
					f.spoil(p)
					g.spoil(p)
					mustPlan(t, c.name+": "+f.name+" and "+g.name, f.code, p)
				}
			}
		}
	}
}

// Any number of things spoilt, none of one rank with another.
func TestManyFaults(t *testing.T) {
	t.Parallel()
	r := rand.New(rand.NewSource(1))
	met := map[int]int{}
	for i := range 1200 {
		c := rows[i%len(rows)]
		p, first, what := right(c), fault{}, c.name
		from := r.Intn(30)
		for rank := from; rank < 30; rank++ {
			var l []fault
			for _, f := range faults(c) {
				if f.rank == rank {
					l = append(l, f)
				}
			}
			if len(l) == 0 || r.Intn(3) == 0 {
				continue
			}
			f := pick(r, l)
			f.spoil(p)
			what += ", " + f.name
			if first.rank == 0 {
				first = f
			}
		}
		met[first.rank]++
		mustPlan(t, what, first.code, p)
	}
	for rank := range 30 {
		if met[rank] == 0 {
			t.Fatalf("nothing of the rank %d came first: %v", rank, met)
		}
	}
}

// What a step says of itself, in its own order: all codes that the header's, the set's and the payload's readers have.
func TestOneStepsCodes(t *testing.T) {
	t.Parallel()
	c := rows[0]
	texts := []struct {
		text string
		code api.Errno
	}{
		{"", api.ErrJson}, {"{", api.ErrJson}, {"nul", api.ErrJson}, {"01", api.ErrJson}, {"\xff", api.ErrJson}, {`{"a":"` + "\xff" + `"}`, api.ErrUtf8}, {`{"a":"\x"}`, api.ErrEscape}, {`{"a":"\ud800"}`, api.ErrEscape}, {`{"a":1,"\u0061":2}`, api.ErrTwice}, {deep(33), api.ErrDeep}, {`{"x":` + deep(32) + `}`, api.ErrDeep},
	}
	for _, x := range texts {
		p := right(c)
		signing := signs([]byte(x.text)) + "." + signs([]byte(object(p.pay...)))
		mustVerify(t, "a header", x.code, signing+"."+signs(p.by.sign(c, signing)), p.keys(), p.policy, p.now)
		mustVerify(t, "a key set", x.code, p.token(), x.text, p.policy, p.now)
		signing = signs([]byte(object(p.head...))) + "." + signs([]byte(x.text))
		mustVerify(t, "a payload", x.code, signing+"."+signs(p.by.sign(c, signing)), p.keys(), p.policy, p.now)
	}
	for raw, code := range map[string]api.Errno{"A": api.ErrLen, "AAAAA": api.ErrLen, "AB": api.ErrBits, "AAB": api.ErrBits, "e30=": api.ErrSign, "e30 ": api.ErrSign, "\n": api.ErrSign, "+": api.ErrSign, "\xff": api.ErrSign, "=": api.ErrSign} {
		p := right(c)
		signing := raw + "." + signs([]byte(object(p.pay...)))
		mustVerify(t, "a header's signs", code, signing+"."+signs(p.by.sign(c, signing)), p.keys(), p.policy, p.now)
		mustVerify(t, "a signature's signs", code, p.signing()+"."+raw, p.keys(), p.policy, p.now)
		signing = signs([]byte(object(p.head...))) + "." + raw
		mustVerify(t, "a payload's signs", code, signing+"."+signs(p.by.sign(c, signing)), p.keys(), p.policy, p.now)
	}
}

// deep: so many lists in one another.
func deep(n int) string {
	b := make([]byte, 2*n)
	for i := range n {
		b[i], b[2*n-1-i] = '[', ']'
	}
	return string(b)
}

// The table of a policy's wishes: members that are there or not, and texts that are the same or not.
func TestWishes(t *testing.T) {
	t.Parallel()
	c := rows[11]
	for i, x := range []struct {
		code  api.Errno
		spoil func(*plan)
	}{
		{api.OK, func(p *plan) { p.policy = api.Policy{Algs: []string{"EdDSA"}}; p.pay = without(p.pay, "aud") }},
		{api.OK, func(p *plan) { p.policy = api.Policy{Algs: []string{"EdDSA"}}; p.pay = nil }},
		{api.ErrBarred, func(p *plan) { p.policy = api.Policy{} }},
		{api.ErrAud, func(p *plan) { p.policy = api.Policy{Algs: []string{"EdDSA"}} }},
		{api.ErrAud, func(p *plan) { p.pay = put(p.pay, "aud", `[]`) }},
		{api.ErrAud, func(p *plan) { p.pay = put(p.pay, "aud", `"You"`) }},
		{api.OK, func(p *plan) { p.pay = put(p.pay, "aud", `"y\u006fu"`) }},
		{api.ErrAud, func(p *plan) { p.pay = without(p.pay, "aud") }},
		{api.ErrIss, func(p *plan) { p.pay = without(p.pay, "iss") }},
		{api.OK, func(p *plan) { p.policy.HasIss = false; p.pay = without(p.pay, "iss") }},
		{api.ErrTyp, func(p *plan) { p.head = without(p.head, "typ") }},
		{api.ErrTyp, func(p *plan) { p.head = put(p.head, "typ", `"jwt"`) }},
		{api.OK, func(p *plan) { p.policy.HasTyp = false; p.head = put(p.head, "typ", `"jwt"`) }},
		{api.OK, func(p *plan) { p.policy.HasTyp = false; p.head = without(p.head, "typ") }},
		{api.ErrMissing, func(p *plan) { p.policy.Need = []string{"exp", "Exp"} }},
		{api.OK, func(p *plan) { p.policy.Need = []string{"exp", "exp", "iss"} }},
		{api.OK, func(p *plan) { p.policy.Leeway = 0 }},
		{api.OK, func(p *plan) { p.policy.Leeway = 600 }},
		{api.ErrPolicy, func(p *plan) { p.policy.Leeway = high }},
		{api.ErrPolicy, func(p *plan) { p.policy.Leeway = low }},
		{api.OK, func(p *plan) { p.key = put(put(put(p.key, "use", `"sig"`), "alg", `"EdDSA"`), "key_ops", `["verify"]`) }},
		{api.OK, func(p *plan) { p.key = put(p.key, "key_ops", `["sign","verify"]`) }},
		{api.ErrBinding, func(p *plan) { p.key = put(p.key, "key_ops", `[]`) }},
		{api.ErrMember, func(p *plan) { p.key = put(p.key, "key_ops", `["verify","verify"]`) }},
		{api.OK, func(p *plan) { p.head = put(p.head, "kid", `""`); p.key = put(p.key, "kid", `""`) }},
		{api.ErrNoKey, func(p *plan) { p.head = put(p.head, "kid", `""`); p.key = without(p.key, "kid") }},
		{api.OK, func(p *plan) { p.head = put(p.head, "kid", `"\ud83d\ude00"`); p.key = put(p.key, "kid", `"😀"`) }},
	} {
		p := right(c)
		x.spoil(p)
		mustPlan(t, fmt.Sprint("wish ", i), x.code, p)
	}
}
