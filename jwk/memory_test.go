package jwk_test

import (
	"bytes"
	"math/rand"
	"slices"
	"sync"
	"testing"
	"unsafe"

	"signet/api"
	"signet/jwk"
)

// laid: the key with its parts as pieces of one memory, marked bytes between them; each piece has all behind it as its spare room.
func laid(k api.Key) (whole []byte, piece api.Key) {
	mark := bytes.Repeat([]byte{0x5a}, 20)
	parts := lists(k)
	for _, part := range parts {
		whole = slices.Concat(whole, mark, part)
	}
	whole = slices.Concat(whole, mark, make([]byte, 200))
	at := 0
	for i, part := range parts {
		at += len(mark)
		parts[i] = whole[at : at+len(part)]
		at += len(part)
	}
	return whole, api.Key{Kty: k.Kty, Crv: k.Crv, Secret: parts[0], N: parts[1], E: parts[2], X: parts[3], Y: parts[4]}
}

func lists(k api.Key) [][]byte { return [][]byte{k.Secret, k.N, k.E, k.X, k.Y} }

// spoil changes every byte, the spare room too.
func spoil(b []byte) {
	b = b[:cap(b)]
	for i := range b {
		b[i] ^= 0xff
	}
}

// roomy: a copy of all lists of a key with their spare room.
func roomy(k api.Key) [][]byte {
	var out [][]byte
	for _, l := range lists(k) {
		out = append(out, slices.Clone(l[:cap(l)]))
	}
	return out
}

func alike(a, b [][]byte) bool { return slices.EqualFunc(a, b, bytes.Equal) }

// wrongKeys: such as are refused, each for another reason.
func wrongKeys() []api.Key {
	g := one()[2]
	return []api.Key{{}, octKey(make([]byte, 31)), octKey(make([]byte, 5000)), {Kty: 9, X: g.X}, rsaKey([]byte{5}, []byte{3}), {Kty: api.EC, Crv: api.P256, X: g.Y, Y: g.X}, okpKey(bytes.Repeat([]byte{0xff}, 32)), {Kty: api.Oct, Secret: g.X, Y: g.Y}}
}

// P2 and P3 of the calls that take a key.
func TestKeyMemory(t *testing.T) {
	t.Parallel()
	for _, k := range slices.Concat(some(), wrongKeys()) {
		whole, piece := laid(k)
		was := slices.Clone(whole)
		want, wantCode := wantText(k)
		wantSum, _ := wantThumbprint(k)
		text, code := jwk.Text(piece)
		sum, again := jwk.Thumbprint(piece)
		twin, last := jwk.Text(piece)
		if code != wantCode || again != wantCode || last != wantCode || text != want || twin != want || sum != wantSum {
			t.Fatalf("P3: a call of %s hangs on spare room, or on what was asked ahead", told(k))
		}
		if !bytes.Equal(whole, was) {
			t.Fatalf("P2: a call changes what is handed in, or the room behind it: %s", told(k))
		}
		spoil(whole)
		if text != want || sum != wantSum {
			t.Fatalf("P2: Text or Thumbprint(%s): the answer goes with what was handed in", told(k))
		}
	}
}

// inMemory: the value with all its strings as pieces of one memory, and itself a piece of a longer list.
func inMemory(v []api.Node) (memory []byte, whole, piece []api.Node) {
	for _, n := range v {
		memory = append(memory, n.Key...)
		memory = append(memory, n.Text...)
	}
	memory = append(memory, 0)
	at := 0
	cut := func(n int) string {
		at += n
		return unsafe.String(unsafe.SliceData(memory[at-n:]), n)
	}
	mark := slices.Repeat([]api.Node{{Kind: 5, Key: "kty", Text: "RSA", Int: 7, Kids: 3}}, 4)
	whole = slices.Clone(mark)
	for _, n := range v {
		n.Key, n.Text = cut(len(n.Key)), cut(len(n.Text))
		whole = append(whole, n)
	}
	whole = append(whole, mark...)
	return memory, whole, whole[4 : 4+len(v)]
}

// someObjects: texts of keys, and of such as are refused at every step.
func someObjects() []string {
	out := []string{`[]`, `{}`, `{"kty":1}`, `{"kty":"rsa"}`, `{"kty":"EC"}`, `{"kty":"EC","crv":"P-521"}`, `{"kty":"RSA","d":null}`, `{"kty":"RSA","n":"AA"}`}
	for _, k := range some() {
		for i, m := range rows(k) {
			out = append(out, joined(with(rows(k), m.name, someValues[i])))
		}
		out = append(out, joined(rows(k)), joined(append(rows(k), row{"kid", `"a"`}, row{"d", `"AA"`})))
	}
	return out
}

// deepClone: the value with strings of its own.
func deepClone(v []api.Node) []api.Node {
	out := slices.Clone(v)
	for i, n := range out {
		out[i].Key, out[i].Text = string([]byte(n.Key)), string([]byte(n.Text))
	}
	return out
}

// holdAnswers: two answers of one call share nothing with each other, and no two lists of one either.
func holdAnswers(t *testing.T, want, first, second api.Key) {
	t.Helper()
	if !same(first, want) || !same(second, want) {
		t.Fatalf("P3: Read hangs on spare room, or on what was asked ahead: %s, %s", told(first), told(second))
	}
	other := roomy(second)
	for i, l := range lists(first) {
		left := roomy(first)
		spoil(l)
		left[i] = slices.Clone(l[:cap(l)])
		if !alike(roomy(first), left) {
			t.Fatal("P2: two lists of one answer share memory")
		}
	}
	if !alike(roomy(second), other) {
		t.Fatal("P2: two answers share memory")
	}
}

func TestReadMemory(t *testing.T) {
	t.Parallel()
	for _, text := range someObjects() {
		v := value(t, text)
		memory, whole, piece := inMemory(v)
		bytesWere, nodesWere := slices.Clone(memory), deepClone(whole)
		want, wantCode := wantRead(v, 0)
		first, code := jwk.Read(piece, 0)
		second, again := jwk.Read(piece, 0)
		if code != wantCode || again != wantCode {
			t.Fatalf("P3: Read of %.900s: %d, %d, want %d", text, int(code), int(again), int(wantCode))
		}
		holdAnswers(t, want, first, second)
		if !bytes.Equal(memory, bytesWere) || !slices.Equal(whole, nodesWere) {
			t.Fatalf("P2: Read of %.900s changes what is handed in, or an answer shares memory with it", text)
		}
		if third, _ := jwk.Read(piece, 0); !same(third, want) {
			t.Fatalf("P3: Read of %.900s: a changed answer shows in a later one", text)
		}
		left := roomy(second)
		spoil(memory)
		clear(whole)
		if !alike(roomy(second), left) {
			t.Fatalf("P2: Read of %.900s: the answer goes with what was handed in", text)
		}
	}
}

// What is laid behind one list must not show in another.
func TestSpareRoom(t *testing.T) {
	t.Parallel()
	for _, k := range some() {
		got, _ := jwk.Read(value(t, joined(rows(k))), 0)
		for _, l := range []*[]byte{&got.Secret, &got.N, &got.E, &got.X, &got.Y} {
			if len(*l) > 0 {
				*l = append(*l, bytes.Repeat([]byte{9}, 200)...)[:len(*l)]
			}
		}
		if !same(got, k) {
			t.Fatalf("P2: what is laid behind one list shows in another: %s", told(got))
		}
	}
}

// One list in several places, and parts that are pieces of one list, one over the other.
func TestPieces(t *testing.T) {
	t.Parallel()
	n := drawnOdd(rand.New(rand.NewSource(11)), 2048)
	n = slices.Concat(n[:253], []byte{1, 0, 1})
	was := slices.Clone(n)
	mustText(t, "E within N", api.OK, rsaKey(n, n[253:]))
	mustText(t, "a piece", api.OK, octKey(n[3:99]))
	for _, k := range []api.Key{rsaKey(n, n[255:]), {Kty: api.EC, Crv: api.P256, X: n[:32], Y: n[:32]}, {Kty: api.Oct, Secret: n, X: n}, okpKey(n[:32])} {
		holdKey(t, k)
	}
	if !bytes.Equal(n, was) {
		t.Fatal("P2: a list is changed of which pieces were handed in")
	}
}

// P3: calls at the same time know nothing of each other.
func TestAtOnce(t *testing.T) {
	t.Parallel()
	keys := slices.Concat(some(), wrongKeys())
	var values [][]api.Node
	for _, text := range someObjects() {
		values = append(values, value(t, text))
	}
	var work sync.WaitGroup
	for worker := range 8 {
		work.Go(func() {
			for i := range keys {
				k := keys[(i+worker)%len(keys)]
				want, wantCode := wantText(k)
				wantSum, _ := wantThumbprint(k)
				text, code := jwk.Text(k)
				sum, again := jwk.Thumbprint(k)
				if code != wantCode || again != wantCode || text != want || sum != wantSum {
					t.Errorf("P3: worker %d: %s: %q, %d, %q", worker, told(k), text, int(code), sum)
				}
			}
			for i := range values {
				v := values[(i+7*worker)%len(values)]
				want, wantCode := wantRead(v, 0)
				k, code := jwk.Read(v, 0)
				if code != wantCode || !same(k, want) {
					t.Errorf("P3: worker %d: Read = %s, %d, want %s, %d", worker, told(k), int(code), told(want), int(wantCode))
				}
				for _, l := range lists(k) {
					spoil(l)
				}
			}
		})
	}
	work.Wait()
}
