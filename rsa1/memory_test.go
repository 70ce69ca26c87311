package rsa1_test

import (
	"bytes"
	"math/rand"
	"slices"
	"sync"
	"testing"

	"signet/api"
	"signet/rsa1"
)

// laid: one list with all of them in it, marked bytes between and behind, and each as a piece of it, with all behind it as its spare room.
func laid(all ...[]byte) (whole []byte, pieces [][]byte) {
	mark := []byte("somebody else's")
	from := make([]int, len(all))
	for i, b := range all {
		from[i] = len(whole)
		whole = slices.Concat(whole, b, mark)
	}
	whole = append(whole, make([]byte, 600)...)
	for i, b := range all {
		pieces = append(pieces, whole[from[i]:from[i]+len(b)])
	}
	return whole, pieces
}

// spoil changes every byte, the spare room too.
func spoil(b []byte) {
	b = b[:cap(b)]
	for i := range b {
		b[i] ^= 0xff
	}
}

func TestEncodeMemory(t *testing.T) {
	for _, h := range append(slices.Clone(hashes), 0, 4) {
		for _, message := range [][]byte{nil, {}, []byte("m"), []byte("a message"), ones(300)} {
			for _, size := range []int{-1, 0, 61, 62, 94, 100, 256, 512, 513} {
				whole, l := laid(message)
				was := slices.Clone(whole)
				want, wantCode := wantEncode(h, message, size)
				one, code := rsa1.Encode(h, l[0], size)
				two, again := rsa1.Encode(h, l[0], size)
				if code != wantCode || again != wantCode || !bytes.Equal(one, want) || !bytes.Equal(two, want) {
					t.Fatalf("P3: Encode(%d, %x, %d) hangs on spare room, or on what was asked ahead", h, message, size)
				}
				if !bytes.Equal(whole, was) {
					t.Fatalf("P2: Encode(%d, %x, %d) changes what is handed in, or the room behind it", h, message, size)
				}
				spoil(one)
				if !bytes.Equal(whole, was) || !bytes.Equal(two, want) {
					t.Fatalf("P2: Encode(%d, %x, %d): an answer shares memory with another one, or with what was handed in", h, message, size)
				}
				holdEncode(t, h, message, size) // what became of an answer shows in no later one
				spoil(whole)
				if !bytes.Equal(two, want) {
					t.Fatalf("P2: Encode(%d, %x, %d): an answer goes with what was handed in", h, message, size)
				}
			}
		}
	}
}

func TestKeyAndVerifyMemory(t *testing.T) {
	message := []byte("a message")
	for _, h := range []api.Hash{1, 2, 3, 4} {
		for _, digits := range []int{2048, 2049, 4096} {
			n, sig := signed(t, max(1, min(h, 3)), message, digits)
			for _, c := range [][4][]byte{{n, three, message, sig}, {n, three, message[1:], sig}, {n, three, message, sig[1:]}, {n, three, message, n}, {n, {2}, message, sig}, {n[1:], three, nil, nil}, {nil, nil, nil, nil}} {
				whole, l := laid(c[:]...)
				was := slices.Clone(whole)
				want, wantKey := wantVerify(h, c[0], c[1], c[2], c[3]), wantKey(c[0], c[1])
				for range 2 {
					if got := rsa1.Verify(h, l[0], l[1], l[2], l[3]); got != want {
						t.Fatalf("P3: Verify says %d, want %d: it hangs on spare room, or on what was asked ahead", got, want)
					}
					if got := rsa1.Key(l[0], l[1]); got != wantKey {
						t.Fatalf("P3: Key says %d, want %d: it hangs on spare room, or on what was asked ahead", got, wantKey)
					}
					if !bytes.Equal(whole, was) {
						t.Fatal("P2: Key or Verify changes what is handed in, or the room behind it")
					}
				}
				for i := range whole {
					whole[i] ^= 0xff
				}
				if got := rsa1.Verify(h, c[0], c[1], c[2], c[3]); got != want {
					t.Fatalf("P3: Verify says %d, want %d, after other bytes", got, want)
				}
			}
		}
	}
}

// One list in several places, and pieces of one list that overlap.
func TestPieces(t *testing.T) {
	r := rand.New(rand.NewSource(8))
	run := ones(700)
	copy(run[300:], drawnBytes(r, 200))
	was := slices.Clone(run)
	piece := func(sizes ...int) []byte {
		size := sizes[r.Intn(len(sizes))]
		from := r.Intn(len(run) - size + 1)
		return run[from : from+size]
	}
	for range 2000 {
		n := piece(256, 257, 300)
		for _, l := range [][4][]byte{{n, piece(1, 3, 4), piece(0, 40), piece(len(n))}, {n, n[:1], n, n}, {n, n[len(n)-2:], n[1:], piece(len(n))}, {n, run, run, run}} {
			h := hashes[r.Intn(3)]
			holdVerify(t, "9.3", h, l[0], l[1], l[2], l[3])
			holdKey(t, l[0], l[1])
			b, _ := rsa1.Encode(h, l[2], len(n))
			spoil(b)
			if !bytes.Equal(run, was) {
				t.Fatal("P2: a list of which pieces were handed in is changed, or shared")
			}
		}
	}
	message := []byte("a message")
	n, sig := signed(t, api.SHA256, message, 2048)
	// The message's bytes, e and the sig as pieces of one list, the one within the other.
	list := slices.Concat(sig, []byte{3}, message)
	mustVerify(t, "9.3", api.OK, api.SHA256, n, list[256:257], list[257:], list[:256])
}

func TestAtOnce(t *testing.T) {
	message := []byte("a message")
	n, sig := signed(t, api.SHA384, message, 2048)
	bad := changed(sig, 200, 1)
	var wg sync.WaitGroup
	for k := range 16 {
		wg.Go(func() {
			for i := range 20 {
				own := append(slices.Clone(message), byte(k), byte(i))
				ownN, ownSig := signed(t, hashes[k%3], own, 2048+i)
				for _, c := range []struct {
					h               api.Hash
					n, message, sig []byte
					want            api.Errno
				}{{api.SHA384, n, message, sig, api.OK}, {api.SHA384, n, message, bad, api.ErrSignature}, {hashes[k%3], ownN, own, ownSig, api.OK}, {hashes[k%3], ownN, message, ownSig, api.ErrSignature}} {
					if got := rsa1.Verify(c.h, c.n, three, c.message, c.sig); got != c.want {
						t.Errorf("P3: worker %d: %d, want %d", k, got, c.want)
					}
				}
				want, _ := wantEncode(hashes[k%3], own, 300)
				if b, code := rsa1.Encode(hashes[k%3], own, 300); code != api.OK || !bytes.Equal(b, want) {
					t.Errorf("P3: worker %d: Encode = %x, %d", k, b, code)
				}
			}
		})
	}
	wg.Wait()
}
