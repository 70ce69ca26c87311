package pss_test

import (
	"bytes"
	"math/rand"
	"slices"
	"sync"
	"testing"

	"signet/api"
	"signet/pss"
)

// laid: one list with all of them in it, marked bytes between and behind, and each as a piece of it, with all behind it as its spare room.
func laid(all ...[]byte) (whole []byte, pieces [][]byte) {
	mark := []byte("somebody else's")
	from := make([]int, len(all))
	for i, b := range all {
		from[i] = len(whole)
		whole = slices.Concat(whole, b, mark)
	}
	whole = append(whole, make([]byte, 600)...)
	for i, b := range all {
		pieces = append(pieces, whole[from[i]:from[i]+len(b)])
	}
	return whole, pieces
}

// spoil changes every byte, the spare room too.
func spoil(b []byte) {
	b = b[:cap(b)]
	for i := range b {
		b[i] ^= 0xff
	}
}

// holdMemory: of a call that answers bytes, by what is handed in: P2 and P3.
func holdMemory(t *testing.T, what string, want []byte, wantCode api.Errno, call func(l [][]byte) ([]byte, api.Errno), given ...[]byte) {
	t.Helper()
	whole, l := laid(given...)
	was := slices.Clone(whole)
	one, code := call(l)
	two, again := call(l)
	if code != wantCode || again != wantCode || !bytes.Equal(one, want) || !bytes.Equal(two, want) {
		t.Fatalf("P3: %s hangs on spare room, or on what was asked ahead", what)
	}
	if !bytes.Equal(whole, was) {
		t.Fatalf("P2: %s changes what is handed in, or the room behind it", what)
	}
	spoil(one)
	if !bytes.Equal(whole, was) || !bytes.Equal(two, want) {
		t.Fatalf("P2: %s: an answer shares memory with another one, or with what was handed in", what)
	}
	if later, code := call(l); code != wantCode || !bytes.Equal(later, want) {
		t.Fatalf("P3: %s: what became of an answer shows in a later one", what)
	}
	spoil(whole)
	if !bytes.Equal(two, want) {
		t.Fatalf("P2: %s: an answer goes with what was handed in", what)
	}
}

func TestMaskMemory(t *testing.T) {
	for _, h := range append(slices.Clone(hashes), 0, 4) {
		for _, seed := range [][]byte{nil, {}, []byte("s"), ones(60), ones(64), ones(300)} {
			for _, n := range []int{-1, 0, 1, 31, 32, 33, 64, 100, 65536, 65537} {
				want, code := wantMask(h, seed, n)
				holdMemory(t, "Mask", want, code, func(l [][]byte) ([]byte, api.Errno) { return pss.Mask(h, l[0], n) }, seed)
			}
		}
	}
}

func TestEncodeMemory(t *testing.T) {
	for _, h := range append(slices.Clone(hashes), 0, 4) {
		for _, digest := range [][]byte{nil, ones(31), sum(h, []byte("d")), ones(65)} {
			for _, salt := range [][]byte{nil, {}, []byte("s"), ones(32), ones(64), ones(150)} {
				for _, bits := range []int{-1, 0, 264, 271, 272, 777, 2047, 2048, 65536, 65537} {
					want, code := wantEncode(h, digest, salt, bits)
					holdMemory(t, "Encode", want, code, func(l [][]byte) ([]byte, api.Errno) { return pss.Encode(h, l[0], l[1], bits) }, digest, salt)
				}
			}
		}
	}
}

// asBytes: an answer that is no list, told as one.
func asBytes(ok bool) ([]byte, api.Errno) {
	if ok {
		return nil, api.OK
	}
	return nil, api.ErrSignature
}

func TestHoldsMemory(t *testing.T) {
	message := []byte("a message")
	for _, h := range hashes {
		for _, bits := range []int{1048, 2047, 2048, 2049} {
			em := encoded(t, h, message, saltFor(h, bits), bits)
			for _, c := range [][2][]byte{{sum(h, message), em}, {sum(h, nil), em}, {sum(h, message), em[1:]}, {sum(h, message), changed(em, 20, 1)}, {ones(31), em}, {nil, nil}} {
				for _, hash := range []api.Hash{h, 4} {
					_, code := asBytes(wantHolds(hash, c[0], c[1], bits))
					holdMemory(t, "Holds", nil, code, func(l [][]byte) ([]byte, api.Errno) { return asBytes(pss.Holds(hash, l[0], l[1], bits)) }, c[0], c[1])
				}
			}
		}
	}
}

func TestVerifyMemory(t *testing.T) {
	message := []byte("a message")
	for _, h := range []api.Hash{1, 2, 3, 4} {
		for _, digits := range []int{2048, 2049, 4096} {
			n, sig := signed(t, max(1, min(h, 3)), message, digits)
			for _, c := range [][4][]byte{{n, three, message, sig}, {n, three, message[1:], sig}, {n, three, message, sig[1:]}, {n, three, message, n}, {n, {2}, message, sig}, {n[1:], three, nil, nil}, {nil, nil, nil, nil}} {
				want := wantVerify(h, c[0], c[1], c[2], c[3])
				holdMemory(t, "Verify", nil, want, func(l [][]byte) ([]byte, api.Errno) { return nil, pss.Verify(h, l[0], l[1], l[2], l[3]) }, c[:]...)
				mustVerify(t, "P3", want, h, c[0], c[1], c[2], c[3])
			}
		}
	}
}

// One list in several places, and pieces of one list that overlap.
func TestPieces(t *testing.T) {
	r := rand.New(rand.NewSource(8))
	run := ones(700)
	copy(run[300:], drawnBytes(r, 200))
	was := slices.Clone(run)
	piece := func(sizes ...int) []byte {
		size := sizes[r.Intn(len(sizes))]
		from := r.Intn(len(run) - size + 1)
		return run[from : from+size]
	}
	for range 2000 {
		h := hashes[r.Intn(3)]
		digest := piece(sumLen(h))
		bits := 1900 + r.Intn(300)
		holdEncode(t, h, digest, digest, bits)
		holdEncode(t, h, digest, piece(0, 32, 48, 64, 200), bits)
		holdMask(t, h, piece(0, 32, 64, 300), r.Intn(200))
		holdHolds(t, "pieces", h, digest, run[:bytesFor(bits)], bits)
		n := piece(256, 257, 300)
		holdVerify(t, "10.4", h, n, piece(1, 3, 4), piece(0, 40), piece(len(n)))
		holdVerify(t, "10.4", h, n, n[:1], n, n)
		em, _ := pss.Encode(h, digest, digest, bits)
		mask, _ := pss.Mask(h, run, 100)
		spoil(em)
		spoil(mask)
		if !bytes.Equal(run, was) {
			t.Fatal("P2: a list of which pieces were handed in is changed, or shared")
		}
	}
	message := []byte("a message")
	n, sig := signed(t, api.SHA256, message, 2048)
	list := slices.Concat(sig, []byte{3}, message)
	mustVerify(t, "10.4", api.OK, api.SHA256, n, list[256:257], list[257:], list[:256])
	// An encoding of its own sum: the digest is a piece of em.
	em := encoded(t, api.SHA256, message, saltFor(api.SHA256, 1), 2047)
	mustHold(t, "a piece of em as the digest", false, api.SHA256, em[223:255], em, 2047)
}

func TestAtOnce(t *testing.T) {
	message := []byte("a message")
	n, sig := signed(t, api.SHA384, message, 2048)
	bad := changed(sig, 200, 1)
	var wg sync.WaitGroup
	for k := range 16 {
		wg.Go(func() {
			h := hashes[k%3]
			for i := range 20 {
				own := append(slices.Clone(message), byte(k), byte(i))
				em, _ := wantEncode(h, sum(h, own), saltFor(h, k), 2047+i)
				if got, code := pss.Encode(h, sum(h, own), saltFor(h, k), 2047+i); code != api.OK || !bytes.Equal(got, em) {
					t.Errorf("P3: worker %d: Encode = %x, %d", k, got, code)
				}
				mask, _ := wantMask(h, own, 1000+i)
				if got, code := pss.Mask(h, own, 1000+i); code != api.OK || !bytes.Equal(got, mask) {
					t.Errorf("P3: worker %d: Mask = %x, %d", k, got, code)
				}
				if !pss.Holds(h, sum(h, own), em, 2047+i) || pss.Holds(h, sum(h, message), em, 2047+i) {
					t.Errorf("P3: worker %d: Holds", k)
				}
				for want, s := range map[api.Errno][]byte{api.OK: sig, api.ErrSignature: bad} {
					if got := pss.Verify(api.SHA384, n, three, message, s); got != want {
						t.Errorf("P3: worker %d: %d, want %d", k, got, want)
					}
				}
			}
		})
	}
	wg.Wait()
}
