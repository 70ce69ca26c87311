package jwt_test

import (
	"bytes"
	"slices"
	"strings"

	"signet/api"
)

// plan: what a token, its key set, its policy and its clock are made of, each thing in a place of its own: so things can be spoilt one by one, and whatever else is spoilt.
type plan struct {
	row
	by                      signer
	head, key, pay          []member // their values spelled
	headEnd, payEnd, setEnd string   // what stands behind the three texts
	headRaw, payRaw, sigRaw string   // what stands behind the token's parts
	listed                  bool     // the payload is the only value of a list
	flipped                 bool     // a bit of the signature is another one
	tail                    string   // what stands behind the token
	others                  []string // entries behind the key
	policy                  api.Policy
	now                     int64
}

// right: a plan of which nothing is refused.
func right(c row) *plan {
	by := signerFor(c)
	return &plan{
		row:    c,
		by:     by,
		head:   []member{{"alg", quoted(c.name)}, {"kid", `"k"`}, {"typ", `"JWT"`}},
		key:    append(slices.Clone(by.members), member{"kid", `"k"`}),
		pay:    []member{{"iss", `"me"`}, {"aud", `["us","you"]`}, {"exp", `2000`}, {"nbf", `1000`}, {"iat", `1100`}, {"jti", `"1"`}},
		policy: api.Policy{Algs: []string{"none", c.name}, Iss: "me", HasIss: true, Aud: "you", HasAud: true, Typ: "JWT", HasTyp: true, Leeway: 10, Need: []string{"exp", "jti"}},
		now:    1500,
	}
}

// put: a member in the place of the one of that name, or behind all.
func put(l []member, name, value string) []member {
	l = slices.Clone(l)
	for i := range l {
		if l[i].name == name {
			l[i].value = value
			return l
		}
	}
	return append(l, member{name, value})
}

// without: the members but that of the name.
func without(l []member, name string) []member {
	return slices.DeleteFunc(slices.Clone(l), func(m member) bool { return m.name == name })
}

// signing: what stands ahead of the second dot.
func (p *plan) signing() string {
	pay := object(p.pay...)
	if p.listed {
		pay = "[" + pay + "]"
	}
	return signs([]byte(object(p.head...)+p.headEnd)) + p.headRaw + "." + signs([]byte(pay+p.payEnd)) + p.payRaw
}

func (p *plan) token() string {
	signing := p.signing()
	sig := bytes.Clone(p.by.sign(p.row, signing))
	if p.flipped {
		sig[len(sig)/2] ^= 4
	}
	return signing + "." + signs(sig) + p.sigRaw + p.tail
}

func (p *plan) keys() string {
	return set(append([]string{object(p.key...)}, p.others...)...) + p.setEnd
}

// signedBy: the plan with another key and its signatures.
func (p *plan) signedBy(s signer) *plan {
	p.by = s
	p.key = append(slices.Clone(s.members), member{"kid", `"k"`})
	return p
}

// fault: one thing that is spoilt, where it stands in the order of refusals, and its code.
type fault struct {
	rank  int
	name  string
	code  api.Errno
	spoil func(*plan)
}

// faults: of the first two steps, then of the others, as the table of DOC.md has them: those of one rank have one code, or do not go together.
func faults(c row) []fault {
	l := []fault{
		{1, "a leeway below 0", api.ErrPolicy, func(p *plan) { p.policy.Leeway = -1 }},
		{1, "a leeway above the greatest", api.ErrPolicy, func(p *plan) { p.policy.Leeway = 601 }},
		{2, "a long token", api.ErrLarge, func(p *plan) { p.payEnd += strings.Repeat(" ", 49152) }},
		{2, "a long key set", api.ErrLarge, func(p *plan) { p.setEnd += strings.Repeat(" ", 262144) }},
		{3, "a third dot", api.ErrDots, func(p *plan) { p.tail += "." }},
		{3, "two more dots", api.ErrDots, func(p *plan) { p.payRaw += ".." }},
		{4, "a header's sign", api.ErrSign, func(p *plan) { p.headRaw += "=" }},
		{5, "a header's text", api.ErrJson, func(p *plan) { p.headEnd += "}" }},
		{6, "a header with crit", api.ErrHeader, func(p *plan) { p.head = put(p.head, "crit", `["exp"]`) }},
		{6, "a header's typ of another kind", api.ErrHeader, func(p *plan) { p.head = put(p.head, "typ", `null`) }},
		{7, "none", api.ErrAlg, func(p *plan) { p.head = put(p.head, "alg", `"none"`) }},
		{8, "a policy without it", api.ErrBarred, func(p *plan) { p.policy.Algs = []string{"none", "NONE", strings.ToLower(c.name)} }},
		{9, "another typ", api.ErrTyp, func(p *plan) { p.policy.Typ = "at+jwt" }},
		{10, "a key set's text", api.ErrTwice, func(p *plan) { p.others = append(p.others, `{"kty":"x","k\u0074y":"x"}`) }},
		{11, "an entry without kty", api.ErrMember, func(p *plan) { p.others = append(p.others, `{"kid":"z"}`) }},
		{11, "an entry with a kid of another kind", api.ErrMember, func(p *plan) { p.others = append(p.others, `{"kty":"oct","kid":1}`) }},
		{12, "no key", api.ErrNoKey, func(p *plan) { p.key = put(p.key, "kid", `"K"`) }},
		{12, "no kid", api.ErrNoKey, func(p *plan) { p.key = without(p.key, "kid") }},
		{12, "two keys", api.ErrKeys, func(p *plan) { p.others = append(p.others, `{"kty":"x","kid":"\u006b"}`) }},
	}
	return append(append(l, keyFaults(c)...), lateFaults(c)...)
}

// keyFaults: those of the steps 7 and 8.
func keyFaults(c row) []fault {
	l := []fault{
		{13, "another type", api.ErrBinding, func(p *plan) {
			p.key = put(p.key, "kty", map[bool]string{true: `"RSA"`, false: `"oct"`}[c.kty == api.Oct])
		}},
		{13, "another use", api.ErrBinding, func(p *plan) { p.key = put(p.key, "use", `"enc"`) }},
		{13, "another alg", api.ErrBinding, func(p *plan) { p.key = put(p.key, "alg", quoted(rows[int(c.alg)%12].name)) }},
		{13, "other key_ops", api.ErrBinding, func(p *plan) { p.key = put(p.key, "key_ops", `["sign","Verify"]`) }},
		{15, "a part that is missing", api.ErrMember, func(p *plan) { p.key = without(p.key, c.lastPart()) }},
		{15, "a part of another kind", api.ErrMember, func(p *plan) { p.key = put(p.key, c.lastPart(), `7`) }},
		{16, "a part that is no base64url", api.ErrKey, func(p *plan) { p.key = spoilPart(p.key, c.firstPart(), `+`) }},
	}
	if c.crv != api.NoCrv {
		l = append(l, fault{13, "another curve", api.ErrBinding, func(p *plan) { p.key = put(p.key, "crv", `"P-521"`) }},
			fault{13, "no curve", api.ErrBinding, func(p *plan) { p.key = without(p.key, "crv") }})
	}
	if c.kty != api.Oct {
		l = append(l, fault{14, "a private member", api.ErrSecret, func(p *plan) { p.key = put(p.key, "d", `null`) }})
	}
	return l
}

func (c row) firstPart() string {
	return map[api.Kty]string{api.Oct: "k", api.RSA: "n", api.EC: "x", api.OKP: "x"}[c.kty]
}

func (c row) lastPart() string {
	return map[api.Kty]string{api.Oct: "k", api.RSA: "e", api.EC: "y", api.OKP: "x"}[c.kty]
}

// spoilPart: a text laid behind a member's string; nothing, if it is none any more.
func spoilPart(l []member, name, more string) []member {
	l = slices.Clone(l)
	for i, m := range l {
		if m.name == name && strings.HasPrefix(m.value, `"`) {
			l[i].value = strings.TrimSuffix(m.value, `"`) + more + `"`
		}
	}
	return l
}

// lateFaults: those of the steps 9 to 11.
func lateFaults(c row) []fault {
	l := []fault{
		{17, "a signature's sign", api.ErrSign, func(p *plan) { p.sigRaw += "=" }},
		{19, "another signature", api.ErrSignature, func(p *plan) { p.flipped = true }},
		{20, "a payload's sign", api.ErrSign, func(p *plan) { p.payRaw += "+" }},
		{21, "a payload's text", api.ErrEscape, func(p *plan) { p.pay = put(p.pay, "x", `"\q"`) }},
		{22, "a payload that is a list", api.ErrClaims, func(p *plan) { p.listed = true }},
		{23, "a sub of another kind", api.ErrClaim, func(p *plan) { p.pay = put(p.pay, "sub", `null`) }},
		{24, "a claim that is missing", api.ErrMissing, func(p *plan) { p.policy.Need = append(slices.Clone(p.policy.Need), "nonce") }},
		{25, "another issuer", api.ErrIss, func(p *plan) { p.policy.Iss = "you" }},
		{26, "another audience", api.ErrAud, func(p *plan) { p.policy.Aud = "me" }},
		{26, "no audience wanted", api.ErrAud, func(p *plan) { p.policy.HasAud = false }},
		{27, "expired", api.ErrExpired, func(p *plan) { p.pay = put(p.pay, "exp", `1489`) }},
		{28, "early", api.ErrEarly, func(p *plan) { p.pay = put(p.pay, "nbf", `1511`) }},
		{29, "of the future", api.ErrFuture, func(p *plan) { p.pay = put(p.pay, "iat", `1511`) }},
	}
	if c.kty == api.Oct && c.size > 32 {
		short := octSigner(c.size - 1)
		l = append(l, fault{18, "a short secret", api.ErrKey, func(p *plan) {
			p.by = short
			for _, m := range p.key {
				if m.name == "k" && strings.HasPrefix(m.value, `"`) && !strings.HasSuffix(m.value, `+"`) {
					p.key = put(p.key, "k", short.members[1].value)
				}
			}
		}})
	}
	return l
}
