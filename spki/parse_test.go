package spki_test

import (
	"bytes"
	"math/rand"
	"slices"
	"testing"

	"signet/api"
)

// kindRow: a kind of key by its bytes: its algorithm, and bytes of a key.
type kindRow struct {
	name           string
	algorithm, key []byte
}

func kindRows() []kindRow {
	r := rand.New(rand.NewSource(5))
	n, g, h := drawnRSA(r, 2048, 17), baseKey(api.P256), baseKey(api.P384)
	return []kindRow{
		{"RSA", rsaAlgorithm, rsaBytes(n.N, n.E)},
		{"P-256", p256Algorithm, pointBytes(g.X, g.Y)},
		{"P-384", p384Algorithm, pointBytes(h.X, h.Y)},
		{"Ed25519", edAlgorithm, drawnOKP(r).X},
	}
}

var (
	nullElement = unhex("05 00")
	rsaOid      = unhex("06 09 2a 86 48 86 f7 0d 01 01 01")
	ecOid       = unhex("06 07 2a 86 48 ce 3d 02 01")
	p256Oid     = unhex("06 08 2a 86 48 ce 3d 03 01 07")
	p384Oid     = unhex("06 05 2b 81 04 00 22")
	edOid       = unhex("06 03 2b 65 70")
)

// algorithms: all that can be made of up to two of these elements, and the known ones with one more, in a SEQUENCE and in others.
func algorithms() [][]byte {
	pieces := [][]byte{nullElement, rsaOid, ecOid, p256Oid, p384Oid, edOid, unhex("30 00"), unhex("02 01 00"), unhex("04 00"), unhex("a0 00")}
	rows := [][]byte{nil}
	for _, a := range pieces {
		rows = append(rows, a)
		for _, b := range pieces {
			rows = append(rows, slices.Concat(a, b))
		}
		rows = append(rows, slices.Concat(rsaOid, nullElement, a), slices.Concat(ecOid, p256Oid, a), slices.Concat(ecOid, p384Oid, a))
	}
	var out [][]byte
	for _, inside := range rows {
		for _, tag := range []byte{0x30, 0x31, 0xa0, 0x24} {
			out = append(out, element(tag, inside))
		}
	}
	return append(out, nil, rsaOid, ecOid, p256Oid, edOid, nullElement, slices.Concat(rsaOid, nullElement), slices.Concat(ecOid, p256Oid))
}

// Every algorithm with every key's bytes: one pair of each kind is taken.
func TestAlgorithms(t *testing.T) {
	t.Parallel()
	for _, k := range kindRows() {
		taken := 0
		for _, algorithm := range algorithms() {
			want := api.ErrDer
			if bytes.Equal(algorithm, k.algorithm) {
				want = api.OK
				taken++
			}
			mustParse(t, k.name, want, info(algorithm, k.key))
		}
		if taken != 1 {
			t.Fatalf("%s: its algorithm comes %d times", k.name, taken)
		}
	}
}

// Identifiers of other algorithms and curves, some of them near.
func TestOtherIdentifiers(t *testing.T) {
	t.Parallel()
	for _, k := range kindRows() {
		for _, oid := range []string{
			"06 09 2a 86 48 86 f7 0d 01 01 0a", "06 09 2a 86 48 86 f7 0d 01 01 0b", "06 09 2a 86 48 86 f7 0d 01 01 02", "06 08 2a 86 48 86 f7 0d 01 01", "06 0a 2a 86 48 86 f7 0d 01 01 01 00", "06 03 2b 65 6e", "06 03 2b 65 6f", "06 03 2b 65 71", "06 02 2b 65", "06 04 2b 65 70 00", "06 05 2b 81 04 00 23", "06 05 2b 81 04 00 0a", "06 05 2b 81 04 01 0c", "06 08 2a 86 48 ce 3d 03 01 01", "06 08 2a 86 48 ce 3d 03 01 06", "06 07 2a 86 48 ce 3d 02 02", "06 01 2a", "06 06 2a 90 80 80 80 00", "06 0a 2a ff ff ff ff ff ff ff ff 7f",
		} {
			other := unhex(oid)
			for _, behind := range [][]byte{nil, nullElement, p256Oid, p384Oid, other} {
				mustParse(t, k.name, api.ErrDer, info(element(0x30, other, behind), k.key))
			}
			mustParse(t, k.name, api.ErrDer, info(element(0x30, ecOid, other), k.key))
		}
	}
}

// The element itself: other tags, parts too many, too few, in another order, and what is wrong with the BIT STRING.
func TestElements(t *testing.T) {
	t.Parallel()
	for _, k := range kindRows() {
		key := bits(k.key)
		mustParse(t, k.name, api.OK, element(0x30, k.algorithm, key))
		for tag := range 256 {
			if tag != 0x30 {
				mustParse(t, "another tag", api.ErrDer, element(byte(tag), k.algorithm, key))
			}
			if tag != 3 {
				mustParse(t, "another tag than BIT STRING's", api.ErrDer, element(0x30, k.algorithm, element(byte(tag), []byte{0}, k.key)))
				mustParse(t, "another tag than BIT STRING's", api.ErrDer, element(0x30, k.algorithm, element(byte(tag), k.key)))
				mustParse(t, "another tag around", api.ErrDer, element(0x30, k.algorithm, element(byte(tag), key)))
			}
		}
		for _, parts := range [][][]byte{{}, {k.algorithm}, {key}, {key, k.algorithm}, {k.algorithm, key, key}, {k.algorithm, key, nullElement}, {nullElement, k.algorithm, key}, {k.algorithm, k.algorithm, key}, {k.algorithm, nullElement, key}, {k.algorithm[2:], key}, {element(0x30, k.algorithm), key}, {element(0x30, k.algorithm, key)}, {k.algorithm, element(0x30, key)}, {element(0x30, k.algorithm[2:], key)}} {
			mustParse(t, "other parts", api.ErrDer, element(0x30, parts...))
		}
		whole := info(k.algorithm, k.key)
		for _, b := range [][]byte{slices.Concat(k.algorithm, key), key, k.key, k.algorithm, slices.Concat(whole, whole), append(slices.Clone(whole), 0), append([]byte{0}, whole...), whole[1:], whole[:len(whole)-1]} {
			mustParse(t, "other bytes", api.ErrDer, b)
		}
		for unused := range 256 {
			want := api.ErrDer
			if unused == 0 {
				want = api.OK
			}
			mustParse(t, "unused bits", want, element(0x30, k.algorithm, element(3, []byte{byte(unused)}, k.key)))
			if unused > 0 {
				cleared := put(k.key, len(k.key)-1, 0)
				mustParse(t, "unused bits that are 0", api.ErrDer, element(0x30, k.algorithm, element(3, []byte{byte(unused)}, cleared)))
			}
		}
		for _, b := range [][]byte{nil, {0}, k.key[1:], k.key[:len(k.key)-1], append(slices.Clone(k.key), 0), append([]byte{0}, k.key...), slices.Concat(k.key, k.key)} {
			mustParse(t, "another key", api.ErrDer, info(k.algorithm, b))
		}
		mustParse(t, "an empty BIT STRING without its byte", api.ErrDer, element(0x30, k.algorithm, element(3)))
		for _, o := range kindRows() {
			if o.name != k.name {
				mustParse(t, o.name+" under "+k.name, api.ErrDer, info(k.algorithm, o.key))
			}
		}
	}
}

// What an RSA key's bytes may be.
func TestBytesOfRSA(t *testing.T) {
	t.Parallel()
	r := rand.New(rand.NewSource(6))
	k := drawnRSA(r, 2048, 8) // both of them have the highest bit set
	n, e := integer(k.N), integer(k.E)
	ask := func(what string, want api.Errno, key []byte) {
		t.Helper()
		mustParse(t, what, want, info(rsaAlgorithm, key))
	}
	ask("a key", api.OK, element(0x30, n, e))
	for tag := range 256 {
		if tag != 0x30 {
			ask("another tag", api.ErrDer, element(byte(tag), n, e))
		}
		if tag != 2 {
			ask("another tag than INTEGER's", api.ErrDer, element(0x30, element(byte(tag), n[4:]), e))
			ask("another tag than INTEGER's", api.ErrDer, element(0x30, n, element(byte(tag), e[2:])))
		}
	}
	seq := func(inside ...[]byte) []byte { return element(0x30, inside...) }
	for _, parts := range [][][]byte{{}, {n}, {n, n, e}, {n, e, e}, {n, e, nullElement}, {nullElement, n, e}, {seq(n, e)}, {seq(n), e}, {n, seq(e)}, {seq(n), seq(e)}, {seq(seq(n))}, {n, seq()}, {seq(), e}, {n, nullElement}, {nullElement, e}} {
		ask("other parts", api.ErrDer, seq(parts...))
	}
	for _, x := range [][]byte{{}, {0, 0}, {0, 1}, {0, 0x7f}, {0xff, 0x80}, {0xff, 0xff}, {0x80}, {0xff}, {0xff, 0x7f}, {0, 0, 0x80}} {
		ask("no number from 0 on", api.ErrDer, seq(n, element(2, x)))
		ask("no number from 0 on", api.ErrDer, seq(element(2, x), e))
	}
	ask("N without the 00 that it needs", api.ErrDer, seq(element(2, k.N), e))
	ask("E without the 00 that it needs", api.ErrDer, seq(n, element(2, k.E)))
	ask("a 00 too many", api.ErrDer, seq(element(2, []byte{0, 0}, k.N), e))
	ask("a 00 too many", api.ErrDer, seq(n, element(2, []byte{0, 0}, k.E)))
	ask("a byte behind", api.ErrDer, append(seq(n, e), 0))
	ask("twice", api.ErrDer, slices.Concat(seq(n, e), seq(n, e)))
	ask("without the SEQUENCE", api.ErrDer, slices.Concat(n, e))
	for what, pair := range map[string][2][]byte{"N 0": {{}, k.E}, "E 0": {k.N, {}}, "both 0": {{}, {}}, "E of N": {k.N, k.N}, "N of E": {k.E, k.E}, "turned": {k.E, k.N}} {
		ask(what, api.ErrKey, rsaBytes(pair[0], pair[1]))
	}
	even := put(k.N, 255, k.N[255]&^1)
	ask("N even", api.ErrKey, rsaBytes(even, k.E))
}

// Lengths in other forms, at each of the places where one stands.
func TestOtherLengths(t *testing.T) {
	t.Parallel()
	longer := func(b []byte) []byte { // the length of a short element in two bytes
		return slices.Concat(b[:1], []byte{0x81}, b[1:])
	}
	for _, k := range kindRows() {
		mustParse(t, "the algorithm's", api.ErrDer, element(0x30, longer(k.algorithm), bits(k.key)))
		inside := longer(k.algorithm[2:])
		mustParse(t, "the identifier's", api.ErrDer, info(element(0x30, inside), k.key))
		if k.name != "RSA" {
			mustParse(t, "the BIT STRING's", api.ErrDer, element(0x30, k.algorithm, longer(bits(k.key))))
			mustParse(t, "the whole's", api.ErrDer, longer(info(k.algorithm, k.key)))
		}
	}
}

func nested(n int, inside []byte) []byte {
	for range n {
		inside = element(0x30, inside)
	}
	return inside
}

// What is nested too deep for layer 8 is ErrDer here, outside and in an RSA key's bytes.
func TestDeep(t *testing.T) {
	t.Parallel()
	for _, k := range kindRows() {
		for _, depth := range []int{1, 2, 30, 31, 32, 33, 34, 100} {
			mustParse(t, "nested", api.ErrDer, nested(depth, info(k.algorithm, k.key)))
			mustParse(t, "nested in the algorithm", api.ErrDer, info(element(0x30, nested(depth, nil)), k.key))
			mustParse(t, "nested for the algorithm", api.ErrDer, info(nested(depth, k.algorithm), k.key))
			mustParse(t, "nested for the key", api.ErrDer, info(k.algorithm, nested(depth, k.key)))
			mustParse(t, "nested nothing", api.ErrDer, nested(depth, nil))
		}
	}
}

// Bytes about MaxDer, such as are an element's too.
func TestLarge(t *testing.T) {
	t.Parallel()
	for length := maxDer - 20; length <= maxDer+20; length++ {
		none := api.ErrDer
		if length > maxDer {
			none = api.ErrLarge
		}
		mustParse(t, "bytes 0", none, make([]byte, length))
		mustParse(t, "a SEQUENCE", none, append([]byte{0x30, 0x82, byte((length - 4) >> 8), byte(length - 4)}, make([]byte, length-4)...))
	}
	taken := map[api.Errno]int{}
	for bytesOfN := maxDer - 60; bytesOfN <= maxDer; bytesOfN++ {
		b := info(rsaAlgorithm, rsaBytes(bytes.Repeat([]byte{1}, bytesOfN), []byte{3}))
		want := api.ErrKey // an element, with an N that is too large
		if len(b) > maxDer {
			want = api.ErrLarge
		}
		taken[want]++
		mustParse(t, "a large N", want, b)
		mustUnpem(t, "a large N", want, pem(b, 64))
	}
	if taken[api.ErrKey] < 5 || taken[api.ErrLarge] < 5 {
		t.Fatalf("not on both sides of the limit: %v", taken)
	}
	for _, k := range kindRows() {
		mustParse(t, "much behind a key", api.ErrLarge, append(info(k.algorithm, k.key), make([]byte, maxDer)...))
		mustParse(t, "much behind a key", api.ErrDer, append(info(k.algorithm, k.key), make([]byte, maxDer-1000)...))
	}
	mustParse(t, "very many bytes", api.ErrLarge, make([]byte, 1<<24))
	many := bytes.Repeat(nullElement, (maxDer-4)/2)
	mustParse(t, "very many elements", api.ErrDer, element(0x30, many))
}

// Every byte at every place, put in, put instead, and left out; of a key's own bytes only some, as most of those cost the search for a root.
func TestEveryByteEverywhere(t *testing.T) {
	t.Parallel()
	for _, k := range kindRows() {
		whole := info(k.algorithm, k.key)
		head := len(whole) - len(k.key)
		for at := range len(whole) + 1 {
			step := 1
			if at > head+12 && at < len(whole)-12 {
				step = 37
			}
			for x := 0; x < 256; x += step {
				holdBytes(t, slices.Concat(whole[:at], []byte{byte(x)}, whole[at:]))
				if at < len(whole) {
					holdBytes(t, put(whole, at, byte(x)))
				}
			}
			if at < len(whole) {
				holdBytes(t, slices.Concat(whole[:at], whole[at+1:]))
			}
			holdBytes(t, whole[:at])
			holdBytes(t, whole[at:])
		}
	}
}
