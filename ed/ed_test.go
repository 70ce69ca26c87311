package ed_test

import (
	"bytes"
	"encoding/hex"
	"math/big"
	"slices"
	"testing"

	"signet/api"
	"signet/ed"
)

func unhex(digits string) []byte {
	b, err := hex.DecodeString(digits)
	if err != nil {
		panic(digits)
	}
	return b
}

// The rows of the chapter's table.
func TestExamples(t *testing.T) {
	pub := unhex("d75a980182b10ab7d54bfed3c964073a0ee172f3daa62325af021a68f707511a")
	sig := unhex("e5564300c360ac729086e2cc806e828a84877f1eb8e5d974d873e065224901555fb8821590a33bacc61e39701cf9b46bd25bf5f0595bbe24655141438e7a100b")
	mustVerify(t, "example", api.OK, pub, nil, sig)
	for i := range sig {
		for _, by := range []byte{1, 0x80, 0xff} {
			mustVerify(t, "example: another byte", api.ErrSignature, pub, nil, changed(sig, i, by))
		}
	}
	if got, code := ed.Encode(ed.Base()); code != api.OK || !bytes.Equal(got, append([]byte{0x58}, bytes.Repeat([]byte{0x66}, 31)...)) {
		t.Errorf("example: Encode(Base()) = %x, %d", got, code)
	}
	one := api.Point{X: api.Nat{}, Y: api.Nat{1}}
	y := func(first byte, rest byte, last byte) []byte {
		return slices.Concat([]byte{first}, bytes.Repeat([]byte{rest}, 30), []byte{last})
	}
	b, l := ed.Base(), ed.Order()
	opposite := api.Point{X: limbs(new(big.Int).Sub(prime, value(b.X))), Y: b.Y}
	for _, row := range []struct {
		what string
		got  answer
		want api.Point
		code api.Errno
	}{
		{"Decode of 01 and 31 bytes 0", answered(ed.Decode(y(1, 0, 0))), one, api.OK},
		{"Decode of 01 .. 80", answered(ed.Decode(y(1, 0, 0x80))), api.Point{}, api.ErrPoint},
		{"Decode of p + 1", answered(ed.Decode(y(0xee, 0xff, 0x7f))), api.Point{}, api.ErrPoint},
		{"Decode of p", answered(ed.Decode(y(0xed, 0xff, 0x7f))), api.Point{}, api.ErrPoint},
		{"Add(B, (p - x, y) of B)", answered(ed.Add(b, opposite)), one, api.OK},
		{"Mul(0, B)", answered(ed.Mul(nil, b)), one, api.OK},
		{"Mul(L, B)", answered(ed.Mul(l, b)), one, api.OK},
	} {
		mustBe(t, "example", row.what, row.got.p, row.got.code, row.want, row.code)
	}
	p, code := ed.Decode(make([]byte, 32))
	if s, ok := of(p); code != api.OK || !ok || s.y.Sign() != 0 || s.x.Bit(0) != 0 {
		t.Errorf("example: Decode of 32 bytes 0 = %s, %d", told(p), code)
	}
}

func TestConstants(t *testing.T) {
	if !prime.ProbablyPrime(20) || !order.ProbablyPrime(20) {
		t.Fatal("p or L is no prime")
	}
	if got := ed.Order(); !slices.Equal(got, limbs(order)) {
		t.Errorf("13.1: Order() = %s", told(got))
	}
	got := ed.Base()
	if !same(got, base().point()) {
		t.Errorf("13.1: Base() = %s", told(got))
	}
	five := product(value(got.Y), big.NewInt(5))
	if five.Cmp(big.NewInt(4)) != 0 || value(got.X).Bit(0) != 0 || !pair(value(got.X), value(got.Y)) || got.Inf {
		t.Errorf("13.1: Base() is not the point of 4 / 5 with the even x: %s", told(got))
	}
	if !base().mul(order).is(neutral()) {
		t.Error("L times B is not the neutral point")
	}
}

// Each fault with each that is told behind it: the first one is told.
func TestFirstFault(t *testing.T) {
	t.Parallel()
	message := []byte("a message")
	pub, sig := signed(message)
	none := make([]byte, 64)
	sigs := [][]byte{sig, nil, {}, sig[:63], sig[1:], append(slices.Clone(sig), 0), none, bytes.Repeat([]byte{0xff}, 64), slices.Concat(sig[:32], low(order)), changed(sig, 3, 1), changed(sig, 40, 1)}
	for i, s := range sigs {
		want := api.ErrSignature
		if i == 0 {
			want = api.OK
		}
		mustVerify(t, "13.4", want, pub, message, s)
		for what, key := range wrongKeys(pub) {
			mustVerify(t, "13.4: key: "+what, api.ErrKey, key, message, s)
		}
	}
	for i, bad := range strangers(t) {
		k := largeScalars()[i%11]
		got, code := ed.Mul(k, bad)
		mustBe(t, "13.3", "Mul("+told(k, bad)+")", got, code, api.Point{}, api.ErrPoint)
	}
}
