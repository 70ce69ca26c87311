package ed_test

import (
	"bytes"
	"math/big"
	"math/rand"
	"slices"
	"testing"

	"signet/api"
	"signet/ed"
)

func TestDecode(t *testing.T) {
	t.Parallel()
	for _, s := range points(t) {
		b := s.bytes()
		got, code := ed.Decode(b)
		mustBe(t, "13.2", "Decode("+told(b)+")", got, code, s.point(), api.OK)
		for _, other := range [][]byte{b[1:], b[:31], slices.Concat(b, []byte{0}), slices.Concat([]byte{0}, b), slices.Concat(b, b), slices.Concat(b, make([]byte, 500)), low(s.y)[:1], nil, {}} {
			got, code := ed.Decode(other)
			mustBe(t, "13.2", "Decode("+told(other)+")", got, code, api.Point{}, api.ErrPoint)
		}
		for i := range b {
			holdDecode(t, changed(b, i, 1<<(i%8)))
		}
		holdDecode(t, reversed(b))
	}
	for n := range 100 {
		if n != 32 {
			holdDecode(t, make([]byte, n))
			holdDecode(t, bytes.Repeat([]byte{1}, n))
		}
	}
}

// The other bit is the opposite point; with x = 0 it is none.
func TestBit(t *testing.T) {
	t.Parallel()
	for _, s := range points(t) {
		b := changed(s.bytes(), 31, 0x80)
		got, code := ed.Decode(b)
		if s.x.Sign() == 0 {
			mustBe(t, "13.2", "Decode("+told(b)+")", got, code, api.Point{}, api.ErrPoint)
			continue
		}
		mustBe(t, "13.2", "Decode("+told(b)+")", got, code, s.neg().point(), api.OK)
	}
}

// Every y from nought on and down from p, and every one from p to 2^255 - 1, with both bits.
func TestEveryY(t *testing.T) {
	t.Parallel()
	count := 0
	for i := range int64(300) {
		for _, y := range []*big.Int{big.NewInt(i), plus(prime, -1-i)} {
			for _, bit := range []byte{0, 0x80} {
				if holdDecode(t, changed(low(y), 31, bit)) == api.OK {
					count++
				}
			}
		}
	}
	if count < 500 || count > 700 {
		t.Errorf("13.2: of 1200 bytes %d are a point's", count)
	}
	for i := range int64(19) {
		for _, bit := range []byte{0, 0x80} {
			b := changed(low(plus(prime, i)), 31, bit)
			got, code := ed.Decode(b)
			mustBe(t, "13.2", "Decode("+told(b)+")", got, code, api.Point{}, api.ErrPoint)
		}
	}
	if last := low(plus(power(255), -1)); !bytes.Equal(last, low(plus(prime, 18))) {
		t.Fatalf("p + 18 is not 2^255 - 1: %x", last)
	}
}

func TestDecodeDrawn(t *testing.T) {
	t.Parallel()
	r := rand.New(rand.NewSource(11))
	taken := 0
	for range 1000 {
		b := drawnBytes(r, 32)
		if holdDecode(t, b) == api.OK {
			taken++
			p, _ := ed.Decode(b)
			if back, code := ed.Encode(p); code != api.OK || !bytes.Equal(back, b) {
				t.Fatalf("13.2: Encode of Decode(%x) = %x, %d", b, back, code)
			}
		}
	}
	if taken < 400 || taken > 600 {
		t.Errorf("13.2: of 1000 bytes %d are a point's", taken)
	}
}

func TestEncode(t *testing.T) {
	t.Parallel()
	for i, s := range points(t) {
		p := s.point()
		holdEncode(t, p)
		holdEncode(t, paddedPoint(p, i%4, (i+1)%3))
		holdEncode(t, paddedPoint(p, 100, 1))
		b, code := ed.Encode(p)
		if code != api.OK || len(b) != 32 || !bytes.Equal(b, s.bytes()) {
			t.Fatalf("13.2: Encode(%s) = %x, %d", told(p), b, code)
		}
		back, code := ed.Decode(b)
		mustBe(t, "13.2", "Decode of Encode of "+told(p), back, code, p, api.OK)
	}
	for i, p := range strangers(t) {
		if b, code := ed.Encode(p); code != api.ErrPoint || b != nil {
			t.Fatalf("13.2: Encode(%s) = %x, %d", told(p), b, code)
		}
		holdEncode(t, paddedPoint(p, i%3, i%2))
	}
}
