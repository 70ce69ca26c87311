package jws_test

import (
	"bytes"
	"math/rand"
	"slices"
	"sync"
	"testing"
	"unsafe"

	"signet/api"
	"signet/jws"
)

// alias: a text that lies in memory which the test can change.
func alias(memory []byte) string { return unsafe.String(unsafe.SliceData(memory), len(memory)) }

// spoil changes every byte, the spare room too.
func spoil(b []byte) {
	b = b[:cap(b)]
	for i := range b {
		b[i] ^= 0xff
	}
}

// laid: the lists as pieces of one memory, marked bytes between them; each piece has all behind it as its spare room.
func laid(lists ...[]byte) (whole []byte, pieces [][]byte) {
	mark := bytes.Repeat([]byte{0x5a}, 20)
	for _, l := range lists {
		whole = slices.Concat(whole, mark, l)
	}
	whole = slices.Concat(whole, mark, make([]byte, 200))
	at := 0
	for _, l := range lists {
		at += len(mark)
		pieces = append(pieces, whole[at:at+len(l)])
		at += len(l)
	}
	return whole, pieces
}

// laidKey: the same of a key's parts and a signature.
func laidKey(k api.Key, sig []byte) (whole []byte, piece api.Key, laidSig []byte) {
	whole, p := laid(k.Secret, k.N, k.E, k.X, k.Y, sig)
	return whole, api.Key{Kty: k.Kty, Crv: k.Crv, Secret: p[0], N: p[1], E: p[2], X: p[3], Y: p[4]}, p[5]
}

var someTokens = []string{"", "a", ".", "..", "a.b.c", "YQ.Yg.", "YQ.Yg.Yw", "YWJj.YWJj.YWJj", "YR.Yg.", "YQ.Yg.Y", "...", "_-8.AAAA.-_8AAAA"}

// P2 of Split: its texts share no memory with the token, though it be changed behind their back.
func TestSplitMemory(t *testing.T) {
	t.Parallel()
	for _, token := range someTokens {
		want, wantCode := wantSplit(token)
		memory := append(make([]byte, 0, 300), token...)
		head, pay, sig, code := jws.Split(alias(memory))
		if string(memory) != token {
			t.Fatalf("P2: Split(%q) changes the token", token)
		}
		spoil(memory)
		if got := [3]string{head, pay, sig}; code != wantCode || got != want {
			t.Fatalf("P2: Split(%q): an answer goes with the token: %q", token, got)
		}
	}
}

// P2 and P3 of Decode: its lists share no memory with the token, with each other, or with another call's.
func TestDecodeMemory(t *testing.T) {
	t.Parallel()
	for _, token := range someTokens {
		want, wantCode := wantDecode(token)
		memory := append(make([]byte, 0, 300), token...)
		var answers [2][3][]byte
		for i := range answers {
			head, pay, sig, code := jws.Decode(alias(memory))
			answers[i] = [3][]byte{head, pay, sig}
			if code != wantCode {
				t.Fatalf("P3: Decode(%q): %d, want %d", token, int(code), int(wantCode))
			}
		}
		for _, l := range answers[0] {
			spoil(l[len(l):])
		}
		if !slices.EqualFunc(answers[0][:], want[:], bytes.Equal) {
			t.Fatalf("P2: Decode(%q): what is laid behind one list shows in another: %q", token, answers[0])
		}
		for i, l := range answers[0] {
			spoil(l)
			if !slices.EqualFunc(answers[0][i+1:], want[i+1:], bytes.Equal) {
				t.Fatalf("P2: Decode(%q): two lists of one answer share memory", token)
			}
		}
		if string(memory) != token || !slices.EqualFunc(answers[1][:], want[:], bytes.Equal) {
			t.Fatalf("P2: Decode(%q): an answer shares memory with the token, or with another answer", token)
		}
		spoil(memory)
		if !slices.EqualFunc(answers[1][:], want[:], bytes.Equal) {
			t.Fatalf("P2: Decode(%q): an answer goes with the token", token)
		}
	}
}

// P2 and P3 of Compact.
func TestCompactMemory(t *testing.T) {
	t.Parallel()
	r := rand.New(rand.NewSource(7))
	for range 500 {
		parts := [][]byte{drawnBytes(r, r.Intn(9)), drawnBytes(r, r.Intn(9)), drawnBytes(r, r.Intn(9))}
		if r.Intn(20) == 0 {
			parts[r.Intn(3)] = make([]byte, 49151)
		}
		whole, p := laid(parts...)
		was := slices.Clone(whole)
		want, wantCode := wantCompact(parts[0], parts[1], parts[2])
		one, code := jws.Compact(p[0], p[1], p[2])
		two, again := jws.Compact(p[0], p[1], p[2])
		if code != wantCode || again != wantCode || one != want || two != want {
			t.Fatalf("P3: Compact(%x) hangs on spare room, or on what was asked ahead", parts)
		}
		if !bytes.Equal(whole, was) {
			t.Fatalf("P2: Compact(%x) changes what is handed in, or the room behind it", parts)
		}
		spoil(whole)
		if one != want {
			t.Fatalf("P2: Compact(%x): the answer goes with what was handed in", parts)
		}
	}
}

// P2 and P3 of Fits and Check: a key's parts and the signature lie in one marked memory.
func TestCheckMemory(t *testing.T) {
	t.Parallel()
	for _, c := range rows {
		own := signerFor(c.alg)
		sig := own.sign(c.alg, signed)
		keys := append(withMore(own.key, []byte{1, 2, 3})[:2], own.key, api.Key{Kty: c.kty, Crv: c.crv}, api.Key{})
		for _, k := range keys {
			for _, s := range [][]byte{sig, changed(sig, 3, 1), nil, sig[:len(sig)-1]} {
				want := wantCheck(c.alg, k, signed, s)
				whole, piece, laidSig := laidKey(k, s)
				was := slices.Clone(whole)
				text := []byte(signed)
				first, second := jws.Check(c.alg, piece, alias(text), laidSig), jws.Check(c.alg, piece, alias(text), laidSig)
				if first != want || second != want || jws.Fits(c.alg, piece) != wantFits(c.alg, k) {
					t.Fatalf("P3: Check(%d, %s) hangs on spare room, or on what was asked ahead", int(c.alg), told(k))
				}
				if !bytes.Equal(whole, was) || string(text) != signed {
					t.Fatalf("P2: Check(%d, %s) changes what is handed in, or the room behind it", int(c.alg), told(k))
				}
			}
		}
	}
}

// P2 and P3 of Tag.
func TestTagMemory(t *testing.T) {
	t.Parallel()
	for _, a := range allAlgs() {
		for _, n := range []int{0, 31, 32, 48, 64, 200, 4097} {
			secret := octKey(n).Secret
			whole, p := laid(secret)
			was := slices.Clone(whole)
			text := []byte(signed)
			want, wantCode := wantTag(a, secret, signed)
			one, code := jws.Tag(a, p[0], alias(text))
			two, again := jws.Tag(a, p[0], alias(text))
			if code != wantCode || again != wantCode || !bytes.Equal(one, want) || !bytes.Equal(two, want) {
				t.Fatalf("P3: Tag(%d, %d bytes) hangs on spare room, or on what was asked ahead", int(a), n)
			}
			room := slices.Clone(two[:cap(two)])
			spoil(one)
			if !bytes.Equal(whole, was) || string(text) != signed || !bytes.Equal(two[:cap(two)], room) {
				t.Fatalf("P2: Tag(%d, %d bytes) changes what is handed in, or its answer shares memory", int(a), n)
			}
			spoil(whole)
			spoil(text)
			if !bytes.Equal(two[:cap(two)], room) {
				t.Fatalf("P2: Tag(%d, %d bytes): the answer goes with what was handed in", int(a), n)
			}
		}
	}
}

// The key's own bytes as its signature, and as each other's parts: pieces of one list.
func TestPieces(t *testing.T) {
	t.Parallel()
	for _, c := range rows {
		k := copied(signerFor(c.alg).key)
		for _, part := range [][]byte{k.Secret, k.N, k.X, k.Y} {
			was := slices.Clone(part)
			holdCheck(t, c.alg, k, alias(part), part)
			if !bytes.Equal(part, was) {
				t.Fatalf("P2: Check(%d) changes a key's part that is the signature too", int(c.alg))
			}
		}
	}
}

// P3: calls at the same time know nothing of each other.
func TestAtOnce(t *testing.T) {
	t.Parallel()
	sigs := map[api.Alg][]byte{}
	for _, c := range rows {
		sigs[c.alg] = signerFor(c.alg).sign(c.alg, signed)
	}
	var work sync.WaitGroup
	for worker := range 8 {
		work.Go(func() {
			r := rand.New(rand.NewSource(int64(worker)))
			for range 200 {
				parts := [][]byte{drawnBytes(r, r.Intn(30)), drawnBytes(r, r.Intn(30)), drawnBytes(r, r.Intn(30))}
				token, _ := jws.Compact(parts[0], parts[1], parts[2])
				head, pay, sig, code := jws.Decode(token)
				if code != api.OK || !slices.EqualFunc(parts, [][]byte{head, pay, sig}, bytes.Equal) {
					t.Errorf("P3: worker %d: Decode(%q) = %x, %x, %x, %d", worker, token, head, pay, sig, int(code))
				}
			}
			for i := range rows {
				c := rows[(i+worker)%len(rows)]
				sig, want := sigs[c.alg], api.OK
				if worker%2 == 0 {
					sig, want = changed(sig, len(sig)-1, 1), api.ErrSignature
				}
				if code := jws.Check(c.alg, signerFor(c.alg).key, signed, sig); code != want {
					t.Errorf("P3: worker %d: Check(%d) = %d, want %d", worker, int(c.alg), int(code), int(want))
				}
			}
		})
	}
	work.Wait()
}
