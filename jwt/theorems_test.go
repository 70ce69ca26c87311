package jwt_test

import (
	"bytes"
	"encoding/base64"
	"math/big"
	"math/rand"
	"slices"
	"strings"
	"testing"

	"signet/api"
	"signet/b64"
	"signet/curve"
	"signet/ecdsa"
	"signet/ed"
	"signet/json"
	"signet/jwk"
	"signet/jwt"
	"signet/nat"
	"signet/pss"
	"signet/rsa1"
	"signet/sha"
	"signet/spki"
)

// T2: no alg none, in whatever case and under whatever policy, with a signature or without.
func TestNone(t *testing.T) {
	t.Parallel()
	for _, c := range rows {
		for _, name := range []string{"none", "None", "NONE", "nOnE", "", " none", strings.ToLower(c.name), c.name + " ", c.name + `\u0000`, "HS1", "ES256K", "ES512", "Ed25519", "RSA", "null"} {
			if name == c.name {
				continue
			}
			p := right(c)
			p.head = put(p.head, "alg", quoted(name))
			p.policy.Algs = append(p.policy.Algs, "none", "None", "NONE", "nOnE", "", name)
			token := p.token()
			mustVerify(t, name, api.ErrAlg, token, p.keys(), p.policy, p.now)
			mustVerify(t, name+", no signature", api.ErrAlg, token[:strings.LastIndex(token, ".")+1], p.keys(), p.policy, p.now)
		}
	}
}

// T2: no empty signature.
func TestEmptySignature(t *testing.T) {
	t.Parallel()
	for _, c := range rows {
		p := right(c)
		mustVerify(t, c.name, api.ErrSignature, p.signing()+".", p.keys(), p.policy, p.now)
	}
}

// keyOf: the key that members say.
func keyOf(t *testing.T, members []member) api.Key {
	t.Helper()
	v, _, _ := json.Parse(object(members...))
	k, code := jwk.Read(v, 0)
	if code != api.OK {
		t.Fatalf("no key: %d", int(code))
	}
	return k
}

// publicForms: the ways in which a public key's bytes may come.
func publicForms(t *testing.T, k api.Key) [][]byte {
	t.Helper()
	der, _ := spki.Print(k)
	pem, _ := spki.Pem(k)
	text, _ := jwk.Text(k)
	print, _ := jwk.Thumbprint(k)
	l := [][]byte{der, []byte(pem), []byte(strings.TrimSpace(pem)), []byte(text), []byte(print), k.N, k.E, k.X, k.Y, slices.Concat(k.X, k.Y), slices.Concat([]byte{4}, k.X, k.Y), []byte(signs(k.N)), []byte(signs(k.X)), nil}
	return slices.DeleteFunc(l, func(b []byte) bool { return len(b) == 0 && b != nil })
}

// T2: an HMAC that is made with a public key's bytes is not taken under that key's kid; under its own kid an Oct key with these bytes is.
func TestPublicBytesAsSecret(t *testing.T) {
	t.Parallel()
	for _, c := range rows[3:] {
		public := keyOf(t, signerFor(c).members)
		for _, hs := range rows[:3] {
			for _, secret := range publicForms(t, public) {
				p := right(hs).signedBy(secretSigner(secret))
				p.key = append(slices.Clone(signerFor(c).members), member{"kid", `"k"`})
				p.policy.Algs = []string{"HS256", "HS384", "HS512", c.name}
				mustPlan(t, hs.name+" with a public key", api.ErrBinding, p)
				if len(secret) < hs.size {
					continue
				}
				p.others = []string{object(append(slices.Clone(p.by.members), member{"kid", `"own"`})...)}
				mustPlan(t, hs.name+" with a public key, and an Oct key of its bytes", api.ErrBinding, p)
				p.head = put(p.head, "kid", `"own"`)
				mustPlan(t, hs.name+" with an Oct key", api.OK, p)
			}
		}
	}
}

// T2: every algorithm with every kind of key: taken with its own alone.
func TestEveryBinding(t *testing.T) {
	t.Parallel()
	for _, c := range rows {
		for _, other := range rows {
			p := right(c)
			p.key = append(slices.Clone(signerFor(other).members), member{"kid", `"k"`})
			_, code := hold(t, p.token(), p.keys(), p.policy, p.now)
			switch {
			case c.kty != other.kty || c.crv != other.crv:
				if code != api.ErrBinding {
					t.Fatalf("20.4: %s with a key of %s: %d", c.name, other.name, int(code))
				}
			case signerFor(c).members[1] != signerFor(other).members[1]:
				if code != api.ErrSignature {
					t.Fatalf("20.1: %s with another key: %d", c.name, int(code))
				}
			case code != api.OK:
				t.Fatalf("20.6: %s: %d", c.name, int(code))
			}
		}
	}
}

// T2: the algorithm that the key's own member alg names, and no other; likewise key_ops and use.
func TestKeysOwnWords(t *testing.T) {
	t.Parallel()
	for _, c := range rows {
		for _, name := range append([]string{"none", "", "RSA-OAEP"}, namesOfAll()...) {
			p := right(c)
			p.key = put(p.key, "alg", quoted(name))
			code := api.ErrBinding
			if name == c.name {
				code = api.OK
			}
			mustPlan(t, c.name+", the key's alg "+name, code, p)
		}
	}
	for ops, code := range map[string]api.Errno{`["verify"]`: api.OK, `["a","verify","b"]`: api.OK, `["\u0076erify"]`: api.OK, `["sign"]`: api.ErrBinding, `["VERIFY"]`: api.ErrBinding, `[""]`: api.ErrBinding, `"verify"`: api.ErrMember, `{"verify":1}`: api.ErrMember, `[["verify"]]`: api.ErrMember, `null`: api.ErrMember} {
		p := right(rows[11])
		p.key = put(p.key, "key_ops", ops)
		mustPlan(t, "key_ops "+ops, code, p)
	}
	for use, code := range map[string]api.Errno{`"sig"`: api.OK, `"\u0073ig"`: api.OK, `"enc"`: api.ErrBinding, `"Sig"`: api.ErrBinding, `""`: api.ErrBinding, `["sig"]`: api.ErrMember, `null`: api.ErrMember} {
		p := right(rows[11])
		p.key = put(p.key, "use", use)
		mustPlan(t, "use "+use, code, p)
	}
}

func namesOfAll() []string {
	var l []string
	for _, c := range rows {
		l = append(l, c.name)
	}
	return l
}

// T3: of all texts that a loose reader would take for the same parts, the one spelling alone is taken.
func TestOneSpelling(t *testing.T) {
	t.Parallel()
	for _, c := range rows {
		p := right(c)
		token, keys := p.token(), p.keys()
		mustVerify(t, c.name, api.OK, token, keys, p.policy, p.now)
		parts := strings.Split(token, ".")
		for i, part := range parts {
			for _, loose := range looselySpelled(part) {
				l := slices.Clone(parts)
				l[i] = loose
				if _, code := jwt.Verify(strings.Join(l, "."), keys, p.policy, p.now); code == api.OK {
					t.Fatalf("20.5: %s: the part %d is taken as %q too", c.name, i, loose)
				}
			}
		}
		for _, around := range []string{" " + token, token + " ", token + "\n", "\ufeff" + token, token + "\x00", quoted(token)} {
			if _, code := hold(t, around, keys, p.policy, p.now); code == api.OK {
				t.Fatalf("20.5: %q is taken", around)
			}
		}
	}
}

// looselySpelled: other texts of the same bytes, to a reader that is not strict.
func looselySpelled(part string) []string {
	b := must(base64.RawURLEncoding.DecodeString(part))
	l := []string{part + "=", part + "==", part + "A", part + "\n", " " + part, part[:4] + "\r\n" + part[4:], base64.URLEncoding.EncodeToString(b) + "=", base64.StdEncoding.EncodeToString(b) + " "}
	if std := base64.RawStdEncoding.EncodeToString(b); std != part {
		l = append(l, std)
	}
	for _, sign := range "ABCDEFGHIJKLMNOPQRSTUVWXYZabcdefghijklmnopqrstuvwxyz0123456789-_" { // other bits behind the last byte
		other := part[:len(part)-1] + string(sign)
		if back, err := base64.RawURLEncoding.DecodeString(other); err == nil && other != part && bytes.Equal(back, b) {
			l = append(l, other)
		}
	}
	return l
}

// T3 and T1: a token, any byte of which is another one, taken away or put in, is not taken. (Of the algorithms that have one signature of a text: not PS, not ES.)
func TestEveryByte(t *testing.T) {
	t.Parallel()
	for _, c := range []row{rows[0], rows[2]} {
		p := right(c)
		token, keys := p.token(), p.keys()
		for i := range len(token) {
			for _, with := range []string{"", "A", "B", "_", ".", "=", token[i:i+1] + token[i:i+1], "\xff"} {
				other := token[:i] + with + token[i+1:]
				if other == token {
					continue
				}
				if _, code := hold(t, other, keys, p.policy, p.now); code == api.OK {
					t.Fatalf("20.5: %q is taken, as %q is", other, token)
				}
			}
		}
	}
}

func number(b []byte) *big.Int { return new(big.Int).SetBytes(b) }

func drawnBytes(r *rand.Rand, n int) []byte {
	b := make([]byte, n)
	r.Read(b)
	return b
}

// rsaWitness: T4: a key of so many bits, with the exponent 3, under which a drawn number signs the text: n = s^3 less the encoding.
func rsaWitness(r *rand.Rand, c row, bits int, text string) signer {
	for {
		s := number(drawnBytes(r, bits/24+1))
		s.Mod(s, new(big.Int).Lsh(big.NewInt(1), uint(bits)/3+1))
		em, _ := rsa1.Encode(c.hash, []byte(text), (bits+7)/8)
		if c.alg >= api.PS256 {
			em, _ = pss.Encode(c.hash, sha.Sum(c.hash, []byte(text)), drawnBytes(r, c.size), bits-1)
		}
		n := new(big.Int).Exp(s, big.NewInt(3), nil)
		n.Sub(n, number(em))
		if n.Sign() > 0 && n.BitLen() == bits && n.Bit(0) == 1 && number(em).Cmp(n) < 0 {
			return fixed(api.Key{Kty: api.RSA, N: n.Bytes(), E: []byte{3}}, s.FillBytes(make([]byte, (bits+7)/8)))
		}
	}
}

// T4: drawn keys of RSA, under which nobody could sign another text; T6: nor does the signature hold for one.
func TestRSAWitnesses(t *testing.T) {
	t.Parallel()
	r := rand.New(rand.NewSource(2))
	for _, c := range rows[3:9] {
		for _, bits := range []int{2048, 2049, 2055, 2056, 2057, 3000, 4095, 4096} {
			p := right(c)
			p.signedBy(rsaWitness(r, c, bits, p.signing()))
			mustPlan(t, c.name+", a drawn key", api.OK, p)
			p.pay = put(p.pay, "jti", `"2"`)
			mustPlan(t, c.name+", a drawn key, another text", api.ErrSignature, p)
			for _, other := range rows[3:9] {
				if other != c {
					q := right(other)
					q.signedBy(p.by)
					mustPlan(t, other.name+", a drawn key of "+c.name, api.ErrSignature, q)
				}
			}
		}
		for _, bits := range []int{2047, 4097} {
			p := right(c)
			p.signedBy(rsaWitness(r, c, bits, p.signing()))
			mustPlan(t, c.name+", bits past the bounds", api.ErrKey, p)
		}
	}
}

// T4: drawn r and s, and the key under which they hold; (r, n - s) holds too.
func TestECWitnesses(t *testing.T) {
	t.Parallel()
	r := rand.New(rand.NewSource(3))
	for _, c := range rows[9:11] {
		n := number(nat.Bytes(curve.Order(c.crv)))
		for range 5 {
			p := right(c)
			point, _ := curve.Mul(c.crv, nat.FromBytes(drawnBytes(r, c.size)), curve.Base(c.crv))
			first := new(big.Int).Mod(number(nat.Bytes(point.X)), n)
			second := new(big.Int).Mod(number(drawnBytes(r, c.size)), n)
			x, y, _ := ecdsa.Recover(c.hash, c.crv, []byte(p.signing()), nat.FromBytes(first.Bytes()), nat.FromBytes(second.Bytes()), point)
			k := api.Key{Kty: api.EC, Crv: c.crv, X: x, Y: y}
			pair := func(s *big.Int) []byte {
				return append(first.FillBytes(make([]byte, c.size)), s.FillBytes(make([]byte, c.size))...)
			}
			mustPlan(t, c.name+", a drawn key", api.OK, p.signedBy(fixed(k, pair(second))))
			mustPlan(t, c.name+", n less s", api.OK, p.signedBy(fixed(k, pair(new(big.Int).Sub(n, second)))))
			if sum := new(big.Int).Add(n, second); sum.BitLen() <= 8*c.size {
				mustPlan(t, c.name+", n and s", api.ErrSignature, p.signedBy(fixed(k, pair(sum))))
			}
			mustPlan(t, c.name+", s and r", api.ErrSignature, p.signedBy(fixed(k, slices.Concat(pair(second)[c.size:], pair(second)[:c.size]))))
			mustPlan(t, c.name+", a byte more", api.ErrSignature, p.signedBy(fixed(k, append(pair(second), 0))))
			p.pay = nil
			p.policy = api.Policy{Algs: []string{c.name}}
			mustPlan(t, c.name+", another text", api.ErrSignature, p.signedBy(fixed(k, pair(second))))
		}
	}
}

// T6's other side: one (r, s) that holds for two texts, under a key that is made for them: s k is half the difference of their sums, and R and -R have one r.
func TestOnePairTwoTexts(t *testing.T) {
	t.Parallel()
	r := rand.New(rand.NewSource(4))
	for _, c := range rows[9:11] {
		one, two := right(c), right(c)
		two.pay = put(two.pay, "jti", `"another"`)
		n := number(nat.Bytes(curve.Order(c.crv)))
		k := new(big.Int).Mod(number(drawnBytes(r, c.size)), n)
		point, _ := curve.Mul(c.crv, nat.FromBytes(k.Bytes()), curve.Base(c.crv))
		first := new(big.Int).Mod(number(nat.Bytes(point.X)), n)
		s := new(big.Int).Sub(number(c.sum(one.signing())), number(c.sum(two.signing())))
		s.Mul(s, new(big.Int).ModInverse(new(big.Int).Lsh(k, 1), n)).Mod(s, n)
		x, y, _ := ecdsa.Recover(c.hash, c.crv, []byte(one.signing()), nat.FromBytes(first.Bytes()), nat.FromBytes(s.Bytes()), point)
		by := fixed(api.Key{Kty: api.EC, Crv: c.crv, X: x, Y: y}, append(first.FillBytes(make([]byte, c.size)), s.FillBytes(make([]byte, c.size))...))
		mustPlan(t, c.name+", the first text", api.OK, one.signedBy(by))
		mustPlan(t, c.name+", the second text", api.OK, two.signedBy(by))
		two.pay = put(two.pay, "jti", `"a third"`)
		mustPlan(t, c.name+", a third text", api.ErrSignature, two)
	}
}

// T4 and T6's other side: under the neutral point one signature holds for every text.
func TestSmallOrder(t *testing.T) {
	t.Parallel()
	neutral := append([]byte{1}, make([]byte, 31)...)
	r := rand.New(rand.NewSource(5))
	for range 5 {
		s := new(big.Int).Mod(number(drawnBytes(r, 40)), number(nat.Bytes(ed.Order())))
		point, _ := ed.Mul(nat.FromBytes(s.Bytes()), ed.Base())
		first, _ := ed.Encode(point)
		second := s.FillBytes(make([]byte, 32))
		slices.Reverse(second)
		by := fixed(api.Key{Kty: api.OKP, Crv: api.Ed25519, X: neutral}, slices.Concat(first, second))
		for _, jti := range []string{`"1"`, `"2"`, `""`} {
			p := right(rows[11]).signedBy(by)
			p.pay = put(p.pay, "jti", jti)
			mustPlan(t, "the neutral point", api.OK, p)
			p.flipped = true
			mustPlan(t, "the neutral point, a bit changed", api.ErrSignature, p)
		}
	}
	p := right(rows[11])
	p.key = put(p.key, "x", quoted(signs(append([]byte{1}, append(make([]byte, 30), 0x80)...))))
	mustPlan(t, "a sign bit at x = 0", api.ErrKey, p)
}

// T6's other side: a secret is the same as itself with bytes 0 behind it, up to the hash's block.
func TestNoughtsBehindASecret(t *testing.T) {
	t.Parallel()
	for _, c := range rows[:3] {
		p := right(c)
		secret, _, _ := b64.Decode(strings.Trim(octSigner(c.size).members[1].value, `"`))
		p.signedBy(secretSigner(secret))
		p.key = put(p.key, "k", quoted(signs(append(bytes.Clone(secret), make([]byte, 64-c.size+3*(c.size-32)/16)...))))
		mustPlan(t, c.name, api.OK, p)
		p.key = put(p.key, "k", quoted(signs(append(bytes.Clone(secret), 0, 1))))
		mustPlan(t, c.name+", another byte behind it", api.ErrSignature, p)
	}
}

// T6: an RSA signature with one text's token is not taken with another's.
func TestOneSignatureOneSum(t *testing.T) {
	t.Parallel()
	for _, c := range rows[3:6] {
		p := right(c)
		first := p.token()
		sig := first[strings.LastIndex(first, "."):]
		mustVerify(t, c.name, api.OK, first, p.keys(), p.policy, p.now)
		for _, jti := range []string{`"2"`, `"10"`, `""`, `"\u0031"`} {
			p.pay = put(p.pay, "jti", jti)
			mustVerify(t, c.name+", another text", api.ErrSignature, p.signing()+sig, p.keys(), p.policy, p.now)
		}
	}
}

// otherEntries: keys with another kid than k, or none; malformed ones among them.
func otherEntries(r *rand.Rand) []string {
	var l []string
	for range r.Intn(6) {
		c := pick(r, rows)
		members := append(slices.Clone(signerFor(c).members), member{"kid", pick(r, []string{`"K"`, `""`, `"k "`, `"\u004b"`, `"kk"`, `"é"`})})
		switch r.Intn(7) {
		case 0:
			members = without(members, "kid")
		case 1:
			members = put(members, c.firstPart(), pick(r, []string{`1`, `null`, `"="`, `[]`, `{"kid":"k"}`}))
		case 2:
			members = put(members, "d", `"k"`)
		case 3:
			members = put(members, "kty", pick(r, []string{`"x"`, `""`, `"k"`, `"oct"`}))
		case 4:
			members = put(members, "use", `"enc"`)
		case 5:
			members = put(members, "x", `[{"kty":"oct","kid":"k"}]`)
		}
		l = append(l, object(members...))
	}
	return l
}

// 20.8: other entries do not count, whatever the token is answered.
func TestOthersDoNotCount(t *testing.T) {
	t.Parallel()
	r := rand.New(rand.NewSource(6))
	for i := range 240 {
		c := rows[i%len(rows)]
		p := right(c)
		if l := faults(c); r.Intn(2) == 0 {
			pick(r, l).spoil(p)
		}
		token, alone := p.token(), p.keys()
		said, code := hold(t, token, alone, p.policy, p.now)
		if strings.HasSuffix(alone, " ") || code == api.ErrTwice || code == api.ErrMember && len(p.others) > 0 {
			continue // no key set, or such a long one that no other has room
		}
		l := slices.Concat([]string{object(p.key...)}, p.others, otherEntries(r))
		r.Shuffle(len(l), func(i, j int) { l[i], l[j] = l[j], l[i] })
		again, next := hold(t, token, set(l...), p.policy, p.now)
		if code != next || !same(said, again) {
			t.Fatalf("20.8: Verify(%.900q, %.900q) = %d, and with others %.900q %d", token, alone, int(code), set(l...), int(next))
		}
		more := `{"x":[` + strings.Join(otherEntries(r), ",") + `],"keys":[` + strings.Join(l, ", ") + `],"y":null}`
		if again, next := hold(t, token, more, p.policy, p.now); code != next || !same(said, again) {
			t.Fatalf("20.8: Verify(%.900q, %.900q) = %d, and with other members %d", token, alone, int(code), int(next))
		}
	}
}

// 20.8: a policy with one name more in Algs, at any place, or one less in Need.
func TestWiderPolicies(t *testing.T) {
	t.Parallel()
	r := rand.New(rand.NewSource(7))
	for i := range 96 {
		c := rows[i%len(rows)]
		p := right(c)
		p.policy.Need = []string{"exp", "jti", "iss", "exp"}
		token, keys := p.token(), p.keys()
		said := mustVerify(t, c.name, api.OK, token, keys, p.policy, p.now)
		wider := p.policy
		wider.Algs = slices.Insert(slices.Clone(wider.Algs), r.Intn(len(wider.Algs)+1), pick(r, append(namesOfAll(), "none", "", "x", "\xff")))
		if again := mustVerify(t, c.name+", an alg more", api.OK, token, keys, wider, p.now); !same(said, again) {
			t.Fatalf("20.8: %s under %s and %s under %s", short(said), short(p.policy), short(again), short(wider))
		}
		at := r.Intn(len(wider.Need))
		wider.Need = slices.Delete(slices.Clone(wider.Need), at, at+1)
		if again := mustVerify(t, c.name+", a need less", api.OK, token, keys, wider, p.now); !same(said, again) {
			t.Fatalf("20.8: %s under %s and %s under %s", short(said), short(p.policy), short(again), short(wider))
		}
	}
}
