package hmac_test

import (
	"bytes"
	libhmac "crypto/hmac"
	"crypto/sha256"
	"crypto/sha512"
	"encoding/hex"
	"hash"
	"math"
	"math/rand"
	"slices"
	"strings"
	"sync"
	"testing"

	"signet/api"
	"signet/hmac"
	"signet/sha"
)

var hashes = []api.Hash{api.SHA256, api.SHA384, api.SHA512}

var noHashes = []api.Hash{0, 4, -1, 5, -2, -3, 256, 257, 384, 512, 1 << 32, 1<<32 + 1, math.MinInt, math.MinInt + 1, math.MaxInt}

// block: the bytes of a block, as the chapter tells them.
func block(h api.Hash) int {
	if h == api.SHA256 {
		return 64
	}
	return 128
}

// want: the tag by Go's own library.
func want(h api.Hash, key, data []byte) []byte {
	made := map[api.Hash]func() hash.Hash{api.SHA256: sha256.New, api.SHA384: sha512.New384, api.SHA512: sha512.New}[h]
	if made == nil {
		return nil
	}
	m := libhmac.New(made, key)
	m.Write(data)
	return m.Sum(nil)
}

// worded: the tag by the chapter's words, over sha.
func worded(h api.Hash, key, data []byte) []byte {
	full := slices.Clone(key)
	if len(full) > sha.Block(h) {
		full = sha.Sum(h, full)
	}
	full = append(full, make([]byte, sha.Block(h)-len(full))...)
	var outer, inner []byte
	for _, c := range full {
		outer = append(outer, c^0x5c)
		inner = append(inner, c^0x36)
	}
	return sha.Sum(h, append(outer, sha.Sum(h, append(inner, data...))...))
}

// hold: is the tag of key and data right, by both readings, and does Check take it?
func hold(t *testing.T, promise string, h api.Hash, key, data []byte) {
	t.Helper()
	got := hmac.Sum(h, key, data)
	if !bytes.Equal(got, want(h, key, data)) || !bytes.Equal(got, worded(h, key, data)) {
		t.Fatalf("%s: hash %d, key of %d bytes %.20x, %d bytes %.20x: %x, want %x", promise, h, len(key), key, len(data), data, got, want(h, key, data))
	}
	if !hmac.Check(h, key, data, want(h, key, data)) {
		t.Fatalf("5.3: hash %d, key of %d bytes, %d bytes: the tag is not taken", h, len(key), len(data))
	}
}

// drawn: n bytes of a fixed run, the last of them not 0.
func drawn(n int) []byte {
	b := make([]byte, n)
	rand.New(rand.NewSource(int64(n))).Read(b)
	if n > 0 {
		b[n-1] |= 1
	}
	return b
}

func repeated(c byte, n int) []byte { return bytes.Repeat([]byte{c}, n) }

// The rows of the chapter's table.
func TestExamples(t *testing.T) {
	jefe, nothing := []byte("Jefe"), []byte("what do ya want for nothing?")
	for _, c := range []struct {
		h         api.Hash
		key, data []byte
		want      string
	}{
		{api.SHA256, repeated(0x0b, 20), []byte("Hi There"), "b0344c61d8db38535ca8afceaf0bf12b881dc200c9833da726e9376c2e32cff7"},
		{api.SHA256, jefe, nothing, "5bdcc146bf60754e6a042426089575c75a003f089d2739839dec58b964ec3843"},
		{api.SHA384, jefe, nothing, "af45d2e376484031617f78d2b58a6b1b9c7ef464f5a01b47e42ec3736322445e8e2240ca5e69e2c78b3239ecfab21649"},
		{api.SHA512, jefe, nothing, "164b7a7bfcf819e2e395fbe73b56e0a387bd64222e831fd610270cd7ea2505549758bf75c05a994a6d034f65f8f0e6fdcaeab1a34d4a6b4b636e070a38bce737"},
		{api.SHA256, repeated(0xaa, 131), []byte("Test Using Larger Than Block-Size Key - Hash Key First"), "60e431591ee0b67f0d8a26aacbf5b77f8e0bc6213728c5140546040f0ee37f54"},
	} {
		tag := hmac.Sum(c.h, c.key, c.data)
		if got := hex.EncodeToString(tag); got != c.want {
			t.Errorf("5.1: Sum(%d, %q, %q) = %s, want %s", c.h, c.key, c.data, got, c.want)
		}
		if !hmac.Check(c.h, c.key, c.data, tag) {
			t.Errorf("5.3: Check(%d, %q, %q) of its tag is false", c.h, c.key, c.data)
		}
		for _, bad := range [][]byte{tag[:len(tag)-1], append(slices.Clone(tag), 0), append(slices.Clone(tag), tag[0]), nil, {}} {
			if hmac.Check(c.h, c.key, c.data, bad) {
				t.Errorf("5.3: Check(%d, %q, %q, %x) is true", c.h, c.key, c.data, bad)
			}
		}
		if hmac.Check(0, c.key, c.data, tag) || hmac.Check(0, c.key, c.data, nil) {
			t.Errorf("5.3: Check(0, %q, %q) is true", c.key, c.data)
		}
	}
}

// The published tags of RFC 4231: they hang on no other program.
func TestPublished(t *testing.T) {
	long := "This is a test using a larger than block-size key and a larger than block-size data. The key needs to be hashed before being used by the HMAC algorithm."
	var counted []byte
	for i := range 25 {
		counted = append(counted, byte(i+1))
	}
	for i, c := range []struct {
		key  []byte
		data string
		want [3]string
	}{
		{repeated(0x0b, 20), "Hi There", [3]string{"b0344c61d8db38535ca8afceaf0bf12b881dc200c9833da726e9376c2e32cff7", "afd03944d84895626b0825f4ab46907f15f9dadbe4101ec682aa034c7cebc59cfaea9ea9076ede7f4af152e8b2fa9cb6", "87aa7cdea5ef619d4ff0b4241a1d6cb02379f4e2ce4ec2787ad0b30545e17cdedaa833b7d6b8a702038b274eaea3f4e4be9d914eeb61f1702e696c203a126854"}},
		{repeated(0xaa, 20), strings.Repeat("\xdd", 50), [3]string{"773ea91e36800e46854db8ebd09181a72959098b3ef8c122d9635514ced565fe", "88062608d3e6ad8a0aa2ace014c8a86f0aa635d947ac9febe83ef4e55966144b2a5ab39dc13814b94e3ab6e101a34f27", "fa73b0089d56a284efb0f0756c890be9b1b5dbdd8ee81a3655f83e33b2279d39bf3e848279a722c806b485a47e67c807b946a337bee8942674278859e13292fb"}},
		{counted, strings.Repeat("\xcd", 50), [3]string{"82558a389a443c0ea4cc819899f2083a85f0faa3e578f8077a2e3ff46729665b", "3e8a69b7783c25851933ab6290af6ca77a9981480850009cc5577c6e1f573b4e6801dd23c4a7d679ccf8a386c674cffb", "b0ba465637458c6990e5a8c5f61d4af7e576d97ff94b872de76f8050361ee3dba91ca5c11aa25eb4d679275cc5788063a5f19741120c4f2de2adebeb10a298dd"}},
		{repeated(0xaa, 131), "Test Using Larger Than Block-Size Key - Hash Key First", [3]string{"60e431591ee0b67f0d8a26aacbf5b77f8e0bc6213728c5140546040f0ee37f54", "4ece084485813e9088d2c63a041bc5b44f9ef1012a2b588f3cd11f05033ac4c60c2ef6ab4030fe8296248df163f44952", "80b24263c7c1a3ebb71493c1dd7be8b49b46d1f41b4aeec1121b013783f8f3526b56d037e05f2598bd0fd2215d6a1e5295e64f73f63f0aec8b915a985d786598"}},
		{repeated(0xaa, 131), long, [3]string{"9b09ffa71b942fcb27635fbcd5b0e944bfdc63644f0713938a7f51535c3a35e2", "6617178e941f020d351e2f254e8fd32c602420feb0b8fb9adccebb82461e99c5a678cc31e799176d3860e6110c46523e", "e37b6a775dc87dbaa4dfa9f96e5e3ffddebd71f8867289865df5a32d20cdc944b6022cac3c4982b10d5eeb55c3e4de15134676fb6de0446065c97440fa8c6a58"}},
	} {
		for k, h := range hashes {
			if got := hex.EncodeToString(hmac.Sum(h, c.key, []byte(c.data))); got != c.want[k] {
				t.Errorf("5.1: row %d, hash %d: %s, want %s", i, h, got, c.want[k])
			}
		}
	}
}

// Keys of every length to behind two blocks, of several kinds, and far longer ones; with no data, and with some.
func TestKeyLengths(t *testing.T) {
	texts := [][]byte{nil, {}, []byte("x"), drawn(64), drawn(200)}
	for _, h := range hashes {
		for n := range 2*block(h) + 10 {
			for _, key := range [][]byte{drawn(n), make([]byte, n), repeated(0xff, n), repeated(0x5c, n), repeated(0x36, n)} {
				for _, text := range texts {
					hold(t, "5.1", h, key, text)
				}
			}
		}
		for _, n := range []int{1000, 4096, 4097, 1 << 16, 1<<20 + 7} {
			hold(t, "5.1: a long key", h, drawn(n), drawn(9))
		}
		hold(t, "5.1: a nil key", h, nil, []byte("text"))
		hold(t, "5.1: nothing at all", h, nil, nil)
	}
}

func TestDataLengths(t *testing.T) {
	for _, h := range hashes {
		text := drawn(3*block(h) + 20)
		for n := range len(text) + 1 {
			hold(t, "5.1", h, []byte("key"), text[:n])
		}
		for _, n := range []int{1 << 16, 1<<20 + 3} {
			hold(t, "5.1: long data", h, drawn(block(h)), drawn(n))
		}
	}
}

// Each bit of the key and of the data counts.
func TestBits(t *testing.T) {
	for _, h := range hashes {
		for _, n := range []int{block(h), block(h) + 5} {
			key, data := drawn(n), drawn(40)
			tag := hmac.Sum(h, key, data)
			for _, b := range [][]byte{key, data} {
				for i := range 8 * len(b) {
					b[i/8] ^= 1 << (i % 8)
					hold(t, "5.1", h, key, data)
					if hmac.Check(h, key, data, tag) {
						t.Fatalf("5.3: hash %d: bit %d of %d bytes turned, the tag still taken", h, i, len(b))
					}
					b[i/8] ^= 1 << (i % 8)
				}
			}
		}
	}
}

// What belongs to the key and what to the data must show, and which hash it is.
func TestApart(t *testing.T) {
	for _, h := range hashes {
		if bytes.Equal(hmac.Sum(h, []byte("ab"), []byte("c")), hmac.Sum(h, []byte("a"), []byte("bc"))) {
			t.Errorf("5.1: hash %d: key and data run together", h)
		}
		if bytes.Equal(hmac.Sum(h, []byte("ab"), []byte("c")), hmac.Sum(h, []byte("c"), []byte("ab"))) {
			t.Errorf("5.1: hash %d: key and data are one", h)
		}
		if got := len(hmac.Sum(h, []byte("k"), nil)); got != map[api.Hash]int{api.SHA256: 32, api.SHA384: 48, api.SHA512: 64}[h] {
			t.Errorf("5.1: hash %d: a tag of %d bytes", h, got)
		}
		for _, other := range hashes {
			if other != h && hmac.Check(other, []byte("k"), []byte("d"), hmac.Sum(h, []byte("k"), []byte("d"))) {
				t.Errorf("5.3: the tag of hash %d is taken for hash %d", h, other)
			}
		}
	}
}

func TestEqual(t *testing.T) {
	for _, c := range []struct {
		a, b string
		want bool
	}{
		{"", "", true}, {"a", "a", true}, {"abc", "abc", true}, {"\x00", "\x00", true}, {"\xff\x80", "\xff\x80", true},
		{"abc", "bbc", false}, {"abc", "abb", false}, {"abc", "acc", false}, {"abc", "xyz", false}, {"abc", "cba", false},
		{"", "a", false}, {"ab", "abc", false}, {"bc", "abc", false}, {"", "\x00", false}, {"ab", "ab\x00", false}, {"\x00\x00", "\x00", false},
		{"\x01\x80", "\x80\x01", false}, {"\x01\x01", "\x00\x00", false}, {"\x80", "\x00", false},
	} {
		if hmac.Equal([]byte(c.a), []byte(c.b)) != c.want || hmac.Equal([]byte(c.b), []byte(c.a)) != c.want {
			t.Errorf("5.2: Equal(%q, %q) is not %t", c.a, c.b, c.want)
		}
	}
	if !hmac.Equal(nil, nil) || !hmac.Equal(nil, []byte{}) || !hmac.Equal([]byte{}, nil) || hmac.Equal(nil, []byte{0}) || hmac.Equal([]byte{0}, nil) {
		t.Error("5.2: a nil list is an empty one")
	}
}

// Lists that differ in one bit, at every place; in two bytes by the same bit; and in length, by bytes 0 and others.
func TestEqualPlaces(t *testing.T) {
	for _, n := range []int{1, 2, 31, 32, 48, 64, 65, 300} {
		a := drawn(n)
		for i := range 8 * n {
			b := slices.Clone(a)
			b[i/8] ^= 1 << (i % 8)
			if hmac.Equal(a, b) || hmac.Equal(b, a) {
				t.Fatalf("5.2: lists of %d bytes, bit %d turned, are equal", n, i)
			}
			b[(i/8+1)%n] ^= 1 << (i % 8)
			if hmac.Equal(a, b) != (n == 1) {
				t.Fatalf("5.2: lists of %d bytes, bit %d turned twice", n, i)
			}
		}
		for _, more := range []int{1, 2, 255, 256, 257, 512, 1 << 16} {
			for _, tail := range [][]byte{make([]byte, more), drawn(more)} {
				b := slices.Concat(a, tail)
				if hmac.Equal(a, b) || hmac.Equal(b, a) {
					t.Fatalf("5.2: lists of %d and %d bytes are equal", len(a), len(b))
				}
			}
		}
		if !hmac.Equal(a, slices.Clone(a)) || !hmac.Equal(a, a) {
			t.Fatalf("5.2: a list of %d bytes is not equal to itself", n)
		}
	}
	for la := range 4 { // all pairs of short lists of three bytes
		for lb := range 4 {
			for x := range power(3, la) {
				for y := range power(3, lb) {
					a, b := digits(x, la), digits(y, lb)
					if hmac.Equal(a, b) != bytes.Equal(a, b) {
						t.Fatalf("5.2: Equal(%x, %x)", a, b)
					}
				}
			}
		}
	}
}

func power(a, n int) int {
	out := 1
	for range n {
		out *= a
	}
	return out
}

// digits: n bytes out of 0, 1 and 128.
func digits(x, n int) []byte {
	b := make([]byte, n)
	for i := range b {
		b[i] = []byte{0, 1, 128}[x%3]
		x /= 3
	}
	return b
}

// Every tag but the right one is refused: cut anywhere, with any byte more, with one bit turned, of no byte.
func TestCheck(t *testing.T) {
	for _, h := range hashes {
		for _, n := range []int{0, 5, block(h) - 1, block(h), block(h) + 1, 500} {
			key, data := drawn(n), drawn(77)
			tag := want(h, key, data)
			no := func(what string, bad []byte) {
				t.Helper()
				if hmac.Check(h, key, data, bad) {
					t.Fatalf("5.3: hash %d, key of %d bytes: a tag %s is taken", h, n, what)
				}
			}
			if !hmac.Check(h, key, data, tag) {
				t.Fatalf("5.3: hash %d, key of %d bytes: the tag is not taken", h, n)
			}
			for i := range len(tag) {
				no("that is cut", tag[:i])
				no("without its beginning", tag[i+1:])
			}
			for c := range 256 {
				no("with one byte more", append(slices.Clone(tag), byte(c)))
				no("with one byte ahead", append([]byte{byte(c)}, tag...))
			}
			for i := range 8 * len(tag) {
				bad := slices.Clone(tag)
				bad[i/8] ^= 1 << (i % 8)
				no("with a bit turned", bad)
			}
			no("of no byte", nil)
			no("of no byte", []byte{})
			no("twice", slices.Concat(tag, tag))
			no("of noughts", make([]byte, len(tag)))
			no("of another text", want(h, key, drawn(78)))
			no("of another key", want(h, drawn(n+1), data))
			no("in hexadecimal", []byte(hex.EncodeToString(tag)))
			no("that is the plain sum", sha.Sum(h, key, data))
		}
	}
}

func TestNoHash(t *testing.T) {
	lists := [][]byte{nil, {}, {0}, []byte("k"), drawn(64), drawn(65), drawn(128), drawn(129), drawn(1000)}
	for _, h := range noHashes {
		for _, key := range lists {
			for _, data := range lists {
				if got := hmac.Sum(h, key, data); got != nil {
					t.Fatalf("5.1: Sum(%d, %d bytes, %d bytes) = %x, want nothing", h, len(key), len(data), got)
				}
				for _, tag := range append(slices.Clone(lists), want(api.SHA256, key, data), want(api.SHA384, key, data), want(api.SHA512, key, data), key, data) {
					if hmac.Check(h, key, data, tag) {
						t.Fatalf("5.3: Check(%d, %d bytes, %d bytes, %x) is true", h, len(key), len(data), tag)
					}
				}
			}
		}
	}
}

// A key and the same with bytes 0 behind it, up to the block; one more makes another key. A longer key and its sum.
func TestOneKey(t *testing.T) {
	texts := [][]byte{nil, []byte("text"), drawn(300)}
	for _, h := range hashes {
		same := func(a, b, text []byte) bool {
			tag := hmac.Sum(h, a, text)
			equal := bytes.Equal(tag, hmac.Sum(h, b, text))
			if hmac.Check(h, b, text, tag) != equal || hmac.Check(h, a, text, hmac.Sum(h, b, text)) != equal {
				t.Fatalf("5.4: hash %d: Check and Sum do not go together", h)
			}
			return equal
		}
		for _, text := range texts {
			for n := range block(h) + 1 {
				key := drawn(n)
				for more := n; more <= block(h); more++ {
					if !same(key, append(slices.Clone(key), make([]byte, more-n)...), text) {
						t.Fatalf("5.4: hash %d: a key of %d bytes, and bytes 0 up to %d", h, n, more)
					}
				}
				for _, past := range []int{1, 2, 100} {
					if same(key, append(slices.Clone(key), make([]byte, block(h)-n+past)...), text) {
						t.Fatalf("5.4: hash %d: a key of %d bytes, and bytes 0 to %d past the block", h, n, past)
					}
				}
				if n > 0 && same(key, append([]byte{0}, key...), text) {
					t.Fatalf("5.4: hash %d: a byte 0 ahead of a key of %d bytes", h, n)
				}
				if n < block(h) && same(key, append(slices.Clone(key), 1), text) {
					t.Fatalf("5.4: hash %d: a byte 1 behind a key of %d bytes", h, n)
				}
				if n > 0 && same(key, sha.Sum(h, key), text) {
					t.Fatalf("5.4: hash %d: a key of %d bytes, no longer than the block, and its sum", h, n)
				}
			}
			for _, n := range []int{block(h) + 1, block(h) + 2, 2 * block(h), 1000, 5000} {
				for _, key := range [][]byte{drawn(n), make([]byte, n)} {
					sum := sha.Sum(h, key)
					if !same(key, sum, text) || !same(key, append(sum, make([]byte, block(h)-len(sum))...), text) {
						t.Fatalf("5.4: hash %d: a key of %d bytes and its sum", h, n)
					}
				}
			}
		}
	}
}

// roomy: a copy of b with bytes 0x5a in its spare room.
func roomy(b []byte) []byte {
	out := append(make([]byte, 0, len(b)+200), b...)
	rest := out[len(out):cap(out)]
	for i := range rest {
		rest[i] = 0x5a
	}
	return out
}

func whole(b []byte) []byte { return b[:cap(b)] }

func turn(b []byte) {
	for i := range whole(b) {
		whole(b)[i] ^= 0xff
	}
}

func TestHandedIn(t *testing.T) {
	for _, h := range append(slices.Clone(hashes), 0, 4, -1) {
		for _, n := range []int{0, 1, 63, 64, 65, 127, 128, 129, 400} {
			key, data, tag := roomy(drawn(n)), roomy(drawn(n+1)), roomy(want(h, drawn(n), drawn(n+1)))
			hmac.Sum(h, key, data)
			hmac.Check(h, key, data, tag)
			hmac.Check(h, key, data, key)
			hmac.Equal(key, data)
			hmac.Equal(data, tag)
			for i, b := range [][]byte{key, data, tag} {
				as := [][]byte{drawn(n), drawn(n + 1), want(h, drawn(n), drawn(n+1))}[i]
				if !bytes.Equal(whole(b), whole(roomy(as))) {
					t.Fatalf("P2: hash %d changed list %d of %d bytes, or its spare room", h, i, len(b))
				}
			}
		}
	}
}

// One run of bytes handed in as key, data and tag, one within the other, and a key with the tag's bytes in its spare room.
func TestOverlap(t *testing.T) {
	for _, h := range hashes {
		run := drawn(600)
		for _, n := range []int{0, 10, block(h) - 1, block(h), block(h) + 1, 300} {
			hold(t, "P2: key and data are one list", h, run[:n], run[:n])
			hold(t, "P2: data behind the key", h, run[:n], run[n:])
			hold(t, "P2: key behind the data", h, run[n:n+40], run[:n])
			hold(t, "P2: key within the data", h, run[5:n+5], run)
			b := append(slices.Clone(run[:n]), want(h, run[:n], run[:9])...)
			if !hmac.Check(h, b[:n], run[:9], b[n:]) {
				t.Fatalf("P2: hash %d: the tag behind a key of %d bytes", h, n)
			}
		}
		if !bytes.Equal(run, drawn(600)) {
			t.Fatalf("P2: hash %d changed what was handed in", h)
		}
	}
}

func TestHandedOut(t *testing.T) {
	for _, h := range hashes {
		for _, n := range []int{0, 20, block(h), block(h) + 1} {
			key, data := roomy(drawn(n)), roomy(drawn(50))
			tag := want(h, drawn(n), drawn(50))
			one, two := hmac.Sum(h, key, data), hmac.Sum(h, key, data)
			turn(one)
			if !bytes.Equal(two, tag) {
				t.Fatalf("P2: hash %d: two answers share memory", h)
			}
			if !bytes.Equal(whole(key), whole(roomy(drawn(n)))) || !bytes.Equal(whole(data), whole(roomy(drawn(50)))) {
				t.Fatalf("P2: hash %d: an answer shares memory with what was handed in", h)
			}
			if !bytes.Equal(hmac.Sum(h, key, data), tag) || !hmac.Check(h, key, data, tag) {
				t.Fatalf("P3: hash %d: a changed answer shows in a later one", h)
			}
			turn(key)
			turn(data)
			if !bytes.Equal(two, tag) {
				t.Fatalf("P2: hash %d: an answer goes with what was handed in", h)
			}
		}
	}
}

// P3: what was asked ahead, of whatever hash, does not show, nor what a list has behind its end.
func TestNothingKept(t *testing.T) {
	for _, h := range hashes {
		for _, ahead := range append(slices.Clone(hashes), 0, 4, -1) {
			for _, n := range []int{0, 3, 64, 65, 128, 129} {
				hmac.Sum(ahead, drawn(200), drawn(100))
				hmac.Check(ahead, drawn(90), drawn(100), drawn(32))
				hold(t, "P3", h, drawn(n), drawn(8))
				hold(t, "P3: spare room", h, roomy(drawn(n)), roomy(drawn(8)))
			}
		}
	}
	a, b := roomy([]byte("ab")), append(make([]byte, 0, 9), "ab"...)
	if !hmac.Equal(a, b) || hmac.Equal(a[:1], b) || hmac.Equal(a, b[:1]) {
		t.Error("P3: Equal hangs on spare room")
	}
}

func TestAtOnce(t *testing.T) {
	key, data := drawn(150), drawn(300)
	for _, h := range hashes {
		tag := want(h, key, data)
		var wg sync.WaitGroup
		for k := range 16 {
			wg.Go(func() {
				own := drawn(100 + k)
				for range 100 {
					if !bytes.Equal(hmac.Sum(h, own, data), want(h, own, data)) || !hmac.Check(h, key, data, tag) || hmac.Check(h, own, data, tag) {
						t.Errorf("P3: hash %d, worker %d", h, k)
					}
				}
			})
		}
		wg.Wait()
	}
}

func FuzzCheck(f *testing.F) {
	f.Add(1, []byte("Jefe"), []byte("what do ya want for nothing?"), []byte(nil))
	f.Add(2, drawn(128), drawn(3), drawn(48))
	f.Add(3, drawn(129), drawn(0), drawn(64))
	f.Add(0, drawn(1), drawn(1), []byte{})
	f.Fuzz(func(t *testing.T, hash int, key, data, tag []byte) {
		h := api.Hash(hash)
		right := want(h, key, data)
		if got := hmac.Sum(h, key, data); !bytes.Equal(got, right) {
			t.Fatalf("5.1: Sum(%d, %x, %x) = %x, want %x", h, key, data, got, right)
		}
		if hmac.Equal(key, data) != bytes.Equal(key, data) || hmac.Equal(right, tag) != bytes.Equal(right, tag) {
			t.Fatalf("5.2: Equal of %x and %x, or of %x and %x", key, data, right, tag)
		}
		if hmac.Check(h, key, data, tag) != (right != nil && bytes.Equal(right, tag)) {
			t.Fatalf("5.3: Check(%d, %x, %x, %x)", h, key, data, tag)
		}
		if hmac.Check(h, key, data, right) != (right != nil) {
			t.Fatalf("5.3: Check(%d, %x, %x) of its tag", h, key, data)
		}
	})
}
