package spki_test

import (
	"bytes"
	"math/rand"
	"slices"
	"sync"
	"testing"
	"unsafe"

	"signet/api"
	"signet/spki"
)

// laid: the key with its parts as pieces of one memory, marked bytes between them; each piece has all behind it as its spare room.
func laid(k api.Key) (whole []byte, piece api.Key) {
	mark := bytes.Repeat([]byte{0x5a}, 20)
	parts := [][]byte{k.Secret, k.N, k.E, k.X, k.Y}
	for _, part := range parts {
		whole = slices.Concat(whole, mark, part)
	}
	whole = slices.Concat(whole, mark, make([]byte, 200))
	at := 0
	for i, part := range parts {
		at += len(mark)
		parts[i] = whole[at : at+len(part)]
		at += len(part)
	}
	return whole, api.Key{Kty: k.Kty, Crv: k.Crv, Secret: parts[0], N: parts[1], E: parts[2], X: parts[3], Y: parts[4]}
}

// spoil changes every byte, the spare room too.
func spoil(b []byte) {
	b = b[:cap(b)]
	for i := range b {
		b[i] ^= 0xff
	}
}

func lists(k api.Key) [][]byte { return [][]byte{k.Secret, k.N, k.E, k.X, k.Y} }

// roomy: a copy of all lists of a key with their spare room.
func roomy(k api.Key) [][]byte {
	var out [][]byte
	for _, l := range lists(k) {
		out = append(out, slices.Clone(l[:cap(l)]))
	}
	return out
}

func alike(a, b [][]byte) bool { return slices.EqualFunc(a, b, bytes.Equal) }

// wrongKeys: such as are refused, each for another reason.
func wrongKeys() []api.Key {
	g := baseKey(api.P256)
	out := []api.Key{{}, octKey(31), octKey(5000), {Kty: 9, X: g.X}, rsaKey([]byte{5}, []byte{3}), {Kty: api.EC, Crv: api.P256, X: g.Y, Y: g.X}, okpKey(bytes.Repeat([]byte{0xff}, 32))}
	for _, k := range some()[:8] {
		out = append(out, oneMore(k, []byte{1, 2, 3})...)
	}
	return out
}

// P2 and P3 of the calls that take a key.
func TestKeyMemory(t *testing.T) {
	t.Parallel()
	for _, k := range slices.Concat(some(), []api.Key{octKey(32), octKey(4096)}, wrongKeys()) {
		whole, piece := laid(k)
		was := slices.Clone(whole)
		want, wantCode := wantPrint(k)
		wantText := ""
		if wantCode == api.OK {
			wantText = pem(want, 64)
		}
		one, code := spki.Print(piece)
		two, again := spki.Print(piece)
		text, last := spki.Pem(piece)
		if code != wantCode || again != wantCode || last != wantCode || text != wantText || !bytes.Equal(one, want) || !bytes.Equal(two, want) || spki.Check(piece) != wantCheck(k) {
			t.Fatalf("P3: a call of %s hangs on spare room, or on what was asked ahead", told(k))
		}
		if !bytes.Equal(whole, was) {
			t.Fatalf("P2: a call changes what is handed in, or the room behind it: %s", told(k))
		}
		room := slices.Clone(two[:cap(two)])
		spoil(one)
		if !bytes.Equal(whole, was) || !bytes.Equal(two[:cap(two)], room) {
			t.Fatalf("P2: Print(%s): an answer shares memory with what is handed in, or with another answer", told(k))
		}
		if three, _ := spki.Print(piece); !bytes.Equal(three, want) {
			t.Fatalf("P3: Print(%s): a changed answer shows in a later one", told(k))
		}
		spoil(whole)
		if !bytes.Equal(two[:cap(two)], room) || text != wantText {
			t.Fatalf("P2: Print or Pem(%s): the answer goes with what was handed in", told(k))
		}
	}
}

// holdAnswers: two answers of one call share nothing with each other, and no two lists of one either.
func holdAnswers(t *testing.T, what string, want, one, two api.Key) {
	t.Helper()
	if !same(one, want) || !same(two, want) {
		t.Fatalf("P3: %s hangs on spare room, or on what was asked ahead", what)
	}
	other := roomy(two)
	for i, l := range lists(one) {
		left := roomy(one)
		spoil(l)
		left[i] = slices.Clone(l[:cap(l)])
		if !alike(roomy(one), left) {
			t.Fatalf("P2: %s: two lists of one answer share memory", what)
		}
	}
	if !alike(roomy(two), other) {
		t.Fatalf("P2: %s: two answers share memory", what)
	}
}

// someBytes: such as are taken, and such as are refused.
func someBytes() [][]byte {
	out := [][]byte{nil, {}, {0x30}, make([]byte, 44), make([]byte, maxDer+1)}
	for i, k := range some() {
		b, _ := wantPrint(k)
		out = append(out, b, put(b, len(b)-1, b[len(b)-1]^1), put(b, i, b[i]^1), b[1:], append(slices.Clone(b), 0))
	}
	return out
}

func TestParseMemory(t *testing.T) {
	t.Parallel()
	for _, b := range someBytes() {
		mark := bytes.Repeat([]byte{0x5a}, 100)
		whole := slices.Concat(mark, b, mark)
		piece := whole[100 : 100+len(b)]
		was := slices.Clone(whole)
		want, wantCode := wantParse(slices.Clone(b))
		one, code := spki.Parse(piece)
		two, again := spki.Parse(piece)
		if code != wantCode || again != wantCode {
			t.Fatalf("P3: Parse(%.90x) hangs on spare room, or on what was asked ahead", b)
		}
		holdAnswers(t, "Parse", want, one, two)
		if !bytes.Equal(whole, was) {
			t.Fatalf("P2: Parse(%.90x) changes what is handed in, or an answer shares memory with it", b)
		}
		if three, _ := spki.Parse(piece); !same(three, want) {
			t.Fatalf("P3: Parse(%.90x): a changed answer shows in a later one", b)
		}
		left := roomy(two)
		spoil(whole)
		if !alike(roomy(two), left) {
			t.Fatalf("P2: Parse(%.90x): the answer goes with what was handed in", b)
		}
	}
}

func TestTextMemory(t *testing.T) {
	t.Parallel()
	for _, b := range someBytes() {
		for _, width := range []int{64, 63} {
			text := pem(b, width)
			memory := []byte(text)
			alias := unsafe.String(unsafe.SliceData(memory), len(memory))
			want, wantCode := wantUnpem(text)
			one, code := spki.Unpem(alias)
			two, again := spki.Unpem(alias)
			if code != wantCode || again != wantCode {
				t.Fatalf("P3: Unpem(%.90q): %d, %d, want %d", text, int(code), int(again), int(wantCode))
			}
			holdAnswers(t, "Unpem", want, one, two)
			if string(memory) != text {
				t.Fatalf("P2: Unpem(%.90q): an answer shares memory with the text", text)
			}
			left := roomy(two)
			spoil(memory)
			if !alike(roomy(two), left) {
				t.Fatalf("P2: Unpem(%.90q): the answer goes with the text", text)
			}
		}
	}
}

// What is laid behind one list must not show in another.
func TestSpareRoom(t *testing.T) {
	t.Parallel()
	for _, k := range some() {
		got, _ := spki.Parse(printed(t, k))
		for _, l := range []*[]byte{&got.N, &got.E, &got.X, &got.Y} {
			if len(*l) > 0 {
				*l = append(*l, bytes.Repeat([]byte{9}, 200)...)[:len(*l)]
			}
		}
		if !same(got, k) {
			t.Fatalf("P2: what is laid behind one list shows in another: %s", told(got))
		}
	}
}

// One list in several places, and parts that are pieces of one list, one over the other.
func TestPieces(t *testing.T) {
	t.Parallel()
	r := rand.New(rand.NewSource(11))
	n := drawnOdd(r, 2048)
	n = slices.Concat(n[:253], []byte{1, 0, 1})
	for _, k := range []api.Key{rsaKey(n, n[253:]), rsaKey(n, n[255:]), {Kty: api.EC, Crv: api.P256, X: n[:32], Y: n[:32]}, {Kty: api.EC, Crv: api.P384, X: n[:48], Y: n[24:72]}, {Kty: api.Oct, Secret: n, X: n}, okpKey(n[:32])} {
		was := slices.Clone(n)
		holdKey(t, k)
		b, _ := spki.Print(k)
		spoil(b)
		if !bytes.Equal(n, was) {
			t.Fatal("P2: a list is changed of which pieces were handed in")
		}
	}
	mustCheck(t, "E within N", api.OK, rsaKey(n, n[253:]))
}

// P3: calls at the same time know nothing of each other.
func TestAtOnce(t *testing.T) {
	t.Parallel()
	keys := slices.Concat(some(), wrongKeys())
	rows := someBytes()
	var work sync.WaitGroup
	for worker := range 8 {
		work.Go(func() {
			for i := range keys {
				k := keys[(i+worker)%len(keys)]
				want, wantCode := wantPrint(k)
				b, code := spki.Print(k)
				text, again := spki.Pem(k)
				if code != wantCode || again != wantCode || !bytes.Equal(b, want) || spki.Check(k) != wantCheck(k) || code == api.OK && text != pem(want, 64) {
					t.Errorf("P3: worker %d: %s: %x, %d", worker, told(k), b, int(code))
				}
				spoil(b)
			}
			for i := range rows {
				b := rows[(i+7*worker)%len(rows)]
				want, wantCode := wantParse(b)
				if k, code := spki.Parse(b); code != wantCode || !same(k, want) {
					t.Errorf("P3: worker %d: Parse(%.90x) = %s, %d", worker, b, told(k), int(code))
				}
			}
		})
	}
	work.Wait()
}
