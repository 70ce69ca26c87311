package jws_test

import (
	"bytes"
	"strings"
	"testing"

	"signet/api"
	"signet/jws"
)

// The rows of the chapter's table.
func TestExamples(t *testing.T) {
	t.Parallel()
	for token, want := range map[string][3]string{"a.b.c": {"a", "b", "c"}, "..": {}} {
		mustSplit(t, api.OK, token)
		if head, pay, sig, _ := jws.Split(token); [3]string{head, pay, sig} != want {
			t.Fatalf("18.1: Split(%q) = %q, %q, %q", token, head, pay, sig)
		}
	}
	mustSplit(t, api.ErrDots, "a.b")
	mustSplit(t, api.ErrDots, "a.b.c.d")
	mustSplit(t, api.ErrDots, "")
	mustSplit(t, api.ErrLarge, strings.Repeat("a", 1<<16+1))
	mustDecode(t, api.OK, "YQ.Yg.")
	if head, pay, sig, _ := jws.Decode("YQ.Yg."); string(head) != "a" || string(pay) != "b" || len(sig) != 0 {
		t.Fatalf("18.2: Decode = %q, %q, %q", head, pay, sig)
	}
	mustDecode(t, api.ErrSign, "YQ=.Yg.")
	mustDecode(t, api.ErrBits, "YR.Yg.")
	mustDecode(t, api.ErrLen, "Y.Yg.=")
	rsaKey := copied(signerFor(api.RS256).key)
	rsaKey.Secret = rsaKey.N
	if jws.Fits(api.HS256, rsaKey) || jws.Fits(api.ES256, signerFor(api.ES384).key) {
		t.Fatal("18.4: Fits of a key of another type or curve")
	}
	mustCheck(t, "a secret of 32 bytes", api.ErrKey, api.HS512, octKey(32), "a.b", make([]byte, 64))
	mustCheck(t, "no algorithm", api.ErrAlg, api.NoAlg, octKey(32), "a.b", nil)
	mustCheck(t, "no algorithm", api.ErrAlg, 13, octKey(32), "a.b", nil)
}

// Dots at every two places; one fewer, and one more.
func TestDots(t *testing.T) {
	t.Parallel()
	const plain = "AAAA_-Q"
	for i := range len(plain) + 1 {
		for j := i; j <= len(plain); j++ {
			token := plain[:i] + "." + plain[i:j] + "." + plain[j:]
			mustSplit(t, api.OK, token)
			if head, pay, sig, _ := jws.Split(token); head != plain[:i] || pay != plain[i:j] || sig != plain[j:] {
				t.Fatalf("18.1: Split(%q) = %q, %q, %q", token, head, pay, sig)
			}
			for at := range len(token) + 1 {
				mustSplit(t, api.ErrDots, token[:at]+"."+token[at:])
			}
		}
		mustSplit(t, api.ErrDots, plain[:i]+"."+plain[i:])
	}
	for n := range 300 {
		want := api.ErrDots
		if n == 2 {
			want = api.OK
		}
		mustSplit(t, want, strings.Repeat(".", n))
	}
}

// Split's texts may be any bytes; only the byte 46 is a dot.
func TestAnyBytes(t *testing.T) {
	t.Parallel()
	for c := range 256 {
		s := string([]byte{byte(c)})
		want := api.OK
		if c == '.' {
			want = api.ErrDots
		}
		for _, token := range []string{s + "..", "." + s + ".", ".." + s, s + "." + s + "." + s} {
			mustSplit(t, want, token)
		}
	}
	for _, s := range []string{"\uff0e", "\u2024", "\u3002", "%2E", "\xae", "\xc0\xae"} {
		mustSplit(t, api.ErrDots, "a.b"+s+"c")
		mustSplit(t, api.OK, s+"."+s+"."+s)
	}
}

// MaxToken: taken at it, refused one past it; and that is told ahead of the dots and of base64url.
func TestMaxToken(t *testing.T) {
	t.Parallel()
	for _, at := range []int{0, 1, 1<<16 - 2, 1 << 15} {
		whole := strings.Repeat("A", 1<<16-2)
		token := whole[:at] + "." + "." + whole[at:]
		mustSplit(t, api.OK, token)
		mustSplit(t, api.ErrLarge, token+"A")
		mustSplit(t, api.ErrLarge, "A"+token)
		mustDecode(t, api.ErrLarge, token+"=")
	}
	for _, fill := range []string{".", "=", "\x00", "A"} {
		mustSplit(t, api.ErrDots, strings.Repeat(fill, 1<<16))
		for _, n := range []int{1<<16 + 1, 1<<16 + 2, 1 << 17, 1 << 20} {
			mustSplit(t, api.ErrLarge, strings.Repeat(fill, n))
			mustDecode(t, api.ErrLarge, strings.Repeat(fill, n))
		}
	}
}

// Each part's own fault, and of two the one of the part further ahead.
func TestFaultsInOrder(t *testing.T) {
	t.Parallel()
	faults := []struct {
		text string
		code api.Errno
	}{{"", api.OK}, {"YQ", api.OK}, {"YWI", api.OK}, {"_-8", api.OK}, {"YQ=", api.ErrSign}, {"Y!", api.ErrSign}, {"\n", api.ErrSign}, {"YQ\n", api.ErrSign}, {"Y+", api.ErrSign}, {"Y", api.ErrLen}, {"YWJjZ", api.ErrLen}, {"YR", api.ErrBits}, {"YWJ", api.ErrBits}}
	for _, head := range faults {
		for _, pay := range faults {
			for _, sig := range faults {
				want := api.OK
				for _, part := range []api.Errno{sig.code, pay.code, head.code} {
					if part != api.OK {
						want = part
					}
				}
				mustDecode(t, want, head.text+"."+pay.text+"."+sig.text)
				mustDecode(t, api.ErrDots, head.text+"."+pay.text+sig.text)
				mustDecode(t, api.ErrDots, head.text+"."+pay.text+"."+sig.text+".")
			}
		}
	}
}

// Compact at the limit, for every share of the three parts, and one byte past it.
func TestCompactLimit(t *testing.T) {
	t.Parallel()
	zero := make([]byte, 1<<17)
	for a := range 7 {
		for b := range 7 {
			for n := 49140; n <= 49153; n++ {
				for turn := range 3 {
					sizes := [3]int{}
					sizes[turn], sizes[(turn+1)%3], sizes[(turn+2)%3] = n-a-b, a, b
					want := api.OK
					if signsOf(sizes[0])+signsOf(sizes[1])+signsOf(sizes[2])+2 > maxToken {
						want = api.ErrLarge
					}
					if token, code := jws.Compact(zero[:sizes[0]], zero[:sizes[1]], zero[:sizes[2]]); code != want || code == api.OK && len(token) != signsOf(sizes[0])+signsOf(sizes[1])+signsOf(sizes[2])+2 {
						t.Fatalf("18.3: Compact of %v bytes = %d bytes, %d, want %d", sizes, len(token), int(code), int(want))
					}
				}
			}
		}
	}
	mustCompact(t, api.OK, zero[:49150], nil, nil)
	mustCompact(t, api.OK, nil, zero[:49150], nil)
	mustCompact(t, api.OK, nil, nil, zero[:49150])
	mustCompact(t, api.ErrLarge, zero[:49151], nil, nil)
	mustCompact(t, api.ErrLarge, nil, zero[:49151], nil)
	mustCompact(t, api.ErrLarge, nil, nil, zero[:49151])
	mustCompact(t, api.OK, zero[:16383], zero[:16383], zero[:16384])
	mustCompact(t, api.ErrLarge, zero[:16383], zero[:16384], zero[:16384])
	mustCompact(t, api.ErrLarge, zero, zero, zero)
}

// signsOf: how many signs so many bytes have, counted.
func signsOf(n int) int {
	signs := 0
	for bits := 8 * n; bits > 0; bits -= 6 {
		signs++
	}
	return signs
}

// Compact of short parts; nil and empty are alike.
func TestCompact(t *testing.T) {
	t.Parallel()
	parts := [][]byte{nil, {}, {0}, {255}, {0, 0}, []byte("abc"), {0xff, 0xef, 0xfb, 0xef}, []byte("."), []byte(`{"alg":"none"}`)}
	met := map[string][3]string{}
	for _, head := range parts {
		for _, pay := range parts {
			for _, sig := range parts {
				mustCompact(t, api.OK, head, pay, sig)
				token, _ := jws.Compact(head, pay, sig)
				three := [3]string{string(head), string(pay), string(sig)}
				if was, ok := met[token]; ok && was != three {
					t.Fatalf("18.7: %q is Compact of %q and of %q", token, was, three)
				}
				met[token] = three
			}
		}
	}
	if token, _ := jws.Compact([]byte("a"), nil, []byte{0}); token != "YQ..AA" {
		t.Fatalf("18.3: Compact = %q", token)
	}
}

// 18.7: of all texts of few signs two that decode to the same are the same.
func TestOneSpelling(t *testing.T) {
	t.Parallel()
	met := map[[3]string]string{}
	var grow func(token string, more int)
	grow = func(token string, more int) {
		parts, code := holdDecode(t, token)
		if code == api.OK {
			three := [3]string{string(parts[0]), string(parts[1]), string(parts[2])}
			if was, ok := met[three]; ok {
				t.Fatalf("18.7: %q and %q decode to the same", was, token)
			}
			met[three] = token
		}
		if more > 0 {
			for _, c := range "AQg_.=\n" {
				grow(token+string(c), more-1)
			}
		}
	}
	grow("", 6)
	if len(met) < 200 {
		t.Fatalf("only %d tokens", len(met))
	}
}

// The whole of a token's making: what Tag makes for the text ahead of the second dot is what Check finds in it.
func TestThereAndBack(t *testing.T) {
	t.Parallel()
	for _, c := range rows[:3] {
		k := octKey(c.size)
		bare, _ := holdCompact(t, []byte(`{"alg":"HS"}`), []byte(`{"iss":"joe"}`), nil)
		signing := bare[:len(bare)-1]
		tag, _ := holdTag(t, c.alg, k.Secret, signing)
		token, _ := holdCompact(t, []byte(`{"alg":"HS"}`), []byte(`{"iss":"joe"}`), tag)
		head, pay, _, _ := jws.Split(token)
		parts, code := holdDecode(t, token)
		if code != api.OK || head+"."+pay != signing || !bytes.Equal(parts[2], tag) {
			t.Fatalf("18.7: %q: %q, %q, %d", token, head, pay, int(code))
		}
		mustCheck(t, "there and back", api.OK, c.alg, k, head+"."+pay, parts[2])
	}
}
