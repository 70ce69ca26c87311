package sha_test

import (
	"bytes"
	"crypto/sha256"
	"crypto/sha512"
	"encoding/hex"
	"math"
	"math/rand"
	"reflect"
	"slices"
	"strings"
	"sync"
	"testing"

	"signet/api"
	"signet/sha"
)

var hashes = []api.Hash{api.SHA256, api.SHA384, api.SHA512}

var noHashes = []api.Hash{0, 4, -1, 5, -2, -3, 256, 257, 384, 512, 1 << 32, 1<<32 + 1, math.MinInt, math.MinInt + 1, math.MaxInt}

// want: the sum by Go's own library.
func want(h api.Hash, b []byte) []byte {
	switch h {
	case api.SHA256:
		s := sha256.Sum256(b)
		return s[:]
	case api.SHA384:
		s := sha512.Sum384(b)
		return s[:]
	case api.SHA512:
		s := sha512.Sum512(b)
		return s[:]
	}
	return nil
}

func hold(t *testing.T, promise string, h api.Hash, got, text []byte) {
	t.Helper()
	if !bytes.Equal(got, want(h, text)) {
		t.Fatalf("%s: hash %d of %d bytes %.40x: %x, want %x", promise, h, len(text), text, got, want(h, text))
	}
}

// drawn: n bytes of a fixed run.
func drawn(n int) []byte {
	b := make([]byte, n)
	rand.New(rand.NewSource(int64(n))).Read(b)
	return b
}

func written(h api.Hash, pieces ...[]byte) *sha.State {
	s := sha.New(h)
	for _, p := range pieces {
		s.Write(p)
	}
	return s
}

func parts(texts ...string) [][]byte {
	var out [][]byte
	for _, s := range texts {
		out = append(out, []byte(s))
	}
	return out
}

// The rows of the chapter's table.

const (
	abc256 = "ba7816bf 8f01cfea 414140de 5dae2223 b00361a3 96177a9c b410ff61 f20015ad"
	abc384 = "cb00753f 45a35e8b b5a03d69 9ac65007 272c32ab 0eded163 1a8b605a 43ff5bed 8086072b a1e7cc23 58baeca1 34c825a7"
	abc512 = "ddaf35a1 93617aba cc417349 ae204131 12e6fa4e 89a97ea2 0a9eeee6 4b55d39a 2192992a 274fc1a8 36ba3c23 a3feebbd 454d4423 643ce80e 2a9ac94f a54ca49f"
)

func spelled(s string) string { return strings.ReplaceAll(s, " ", "") }

func TestExamples(t *testing.T) {
	for _, c := range []struct {
		h     api.Hash
		parts []string
		want  string
	}{
		{api.SHA256, []string{"abc"}, abc256},
		{api.SHA256, nil, "e3b0c442 98fc1c14 9afbf4c8 996fb924 27ae41e4 649b934c a495991b 7852b855"},
		{api.SHA384, []string{"a", "bc"}, abc384},
		{api.SHA512, []string{"abc"}, abc512},
	} {
		if got := hex.EncodeToString(sha.Sum(c.h, parts(c.parts...)...)); got != spelled(c.want) {
			t.Errorf("4.2: Sum(%d, %q) = %s, want %s", c.h, c.parts, got, c.want)
		}
	}
	if got := sha.Sum(0, []byte("abc")); got != nil {
		t.Errorf("4.2: Sum(0, abc) = %x", got)
	}
	if got := sha.New(4); got != nil {
		t.Errorf("4.3: New(4) = %v", got)
	}
	s := written(api.SHA256, []byte("a"))
	s.Sum()
	s.Write([]byte("bc"))
	if got := hex.EncodeToString(s.Sum()); got != spelled(abc256) {
		t.Errorf("4.3: a, Sum, bc, Sum: %s", got)
	}
}

// Published sums of the standard's examples, and of a million a: they hang on no other program.
func TestPublished(t *testing.T) {
	two256 := "abcdbcdecdefdefgefghfghighijhijkijkljklmklmnlmnomnopnopq"
	two512 := "abcdefghbcdefghicdefghijdefghijkefghijklfghijklmghijklmnhijklmnoijklmnopjklmnopqklmnopqrlmnopqrsmnopqrstnopqrstu"
	million := strings.Repeat("a", 1000000)
	for _, c := range []struct {
		h    api.Hash
		text string
		want string
	}{
		{api.SHA256, two256, "248d6a61 d20638b8 e5c02693 0c3e6039 a33ce459 64ff2167 f6ecedd4 19db06c1"},
		{api.SHA384, two512, "09330c33 f71147e8 3d192fc7 82cd1b47 53111b17 3b3b05d2 2fa08086 e3b0f712 fcc7c71a 557e2db9 66c3e9fa 91746039"},
		{api.SHA512, two512, "8e959b75 dae313da 8cf4f728 14fc143f 8f7779c6 eb9f7fa1 7299aead b6889018 501d289e 4900f7e4 331b99de c4b5433a c7d329ee b6dd2654 5e96e55b 874be909"},
		{api.SHA256, million, "cdc76e5c 9914fb92 81a1c7e2 84d73e67 f1809a48 a497200e 046d39cc c7112cd0"},
		{api.SHA384, million, "9d0e1809 716474cb 086e834e 310a4a1c ed149e9c 00f24852 7972cec5 704c2a5b 07b8b3dc 38ecc4eb ae97ddd8 7f3d8985"},
		{api.SHA512, million, "e718483d 0ce76964 4e2e42c7 bc15b463 8e1f98b1 3b204428 5632a803 afa973eb de0ff244 877ea60a 4cb0432c e577c31b eb009c5c 2c49aa2e 4eadb217 ad8cc09b"},
		{api.SHA384, "", "38b060a7 51ac9638 4cd9327e b1b1e36a 21fdb711 14be0743 4c0cc7bf 63f6e1da 274edebf e76f65fb d51ad2f1 4898b95b"},
		{api.SHA512, "", "cf83e135 7eefb8bd f1542850 d66d8007 d620e405 0b5715dc 83f4a921 d36ce9ce 47d0d13c 5d85f2b0 ff8318d2 877eec2f 63b931bd 47417a81 a538327a f927da3e"},
	} {
		if got := hex.EncodeToString(sha.Sum(c.h, []byte(c.text))); got != spelled(c.want) {
			t.Errorf("4.2: Sum(%d, %.20q of %d bytes) = %s, want %s", c.h, c.text, len(c.text), got, c.want)
		}
	}
}

func TestSizes(t *testing.T) {
	sizes := map[api.Hash][2]int{api.SHA256: {32, 64}, api.SHA384: {48, 128}, api.SHA512: {64, 128}}
	for h := api.Hash(-300); h <= 600; h++ {
		if got, want := [2]int{sha.Size(h), sha.Block(h)}, sizes[h]; got != want {
			t.Errorf("4.1: Size and Block of %d: %v, want %v", h, got, want)
		}
	}
	for _, h := range hashes {
		if got := len(sha.Sum(h, drawn(5))); got != sizes[h][0] {
			t.Errorf("4.2: Sum(%d) has %d bytes", h, got)
		}
		if got := len(sha.New(h).Sum()); got != sizes[h][0] {
			t.Errorf("4.3: New(%d).Sum() has %d bytes", h, got)
		}
	}
}

func TestNoHash(t *testing.T) {
	for _, h := range noHashes {
		if sha.Size(h) != 0 || sha.Block(h) != 0 {
			t.Errorf("4.1: Size and Block of %d: %d and %d, want 0", h, sha.Size(h), sha.Block(h))
		}
		for _, p := range [][][]byte{nil, {}, {nil}, parts(""), parts("abc"), parts("a", "bc"), {drawn(1000)}} {
			if got := sha.Sum(h, p...); got != nil {
				t.Errorf("4.2: Sum(%d, %q) = %x, want nothing", h, p, got)
			}
		}
		if got := sha.New(h); got != nil {
			t.Errorf("4.3: New(%d) = %v, want nil", h, got)
		}
	}
}

// Every length to behind two blocks of each hash and more, of several texts: the filling ends in the last block, or needs one more.
func TestLengths(t *testing.T) {
	const most = 3*128 + 20
	texts := [][]byte{drawn(most), make([]byte, most), bytes.Repeat([]byte{0xff}, most), bytes.Repeat([]byte{0x80}, most)}
	for _, h := range hashes {
		for _, text := range texts {
			for n := range most + 1 {
				hold(t, "4.2", h, sha.Sum(h, text[:n]), text[:n])
				hold(t, "4.3", h, written(h, text[:n]).Sum(), text[:n])
			}
		}
	}
}

// Long texts: the count of bits needs more than one, two and three of its bytes.
func TestLong(t *testing.T) {
	for _, n := range []int{8191, 8192, 1<<16 - 1, 1 << 16, 1<<16 + 1, 1<<21 - 1, 1 << 21, 1<<21 + 77} {
		text := drawn(n)
		for _, h := range hashes {
			hold(t, "4.2", h, sha.Sum(h, text), text)
			hold(t, "4.2, cut", h, sha.Sum(h, text[:n/3], text[n/3:]), text)
		}
	}
}

// Each bit of a text counts: of a text with one bit turned the sum is that of the turned text.
func TestBits(t *testing.T) {
	for _, h := range hashes {
		text := drawn(sha.Block(h) + 9)
		for i := range 8 * len(text) {
			text[i/8] ^= 1 << (i % 8)
			hold(t, "4.2", h, sha.Sum(h, text), text)
			text[i/8] ^= 1 << (i % 8)
		}
	}
}

func TestParts(t *testing.T) {
	text := drawn(300)
	for _, h := range hashes {
		hold(t, "4.2: no parts", h, sha.Sum(h), nil)
		hold(t, "4.2: an empty list of parts", h, sha.Sum(h, [][]byte{}...), nil)
		hold(t, "4.2: a nil part", h, sha.Sum(h, nil), nil)
		hold(t, "4.2: nil parts", h, sha.Sum(h, nil, nil, nil), nil)
		hold(t, "4.2: a part of no bytes", h, sha.Sum(h, []byte{}), nil)
		hold(t, "4.2: parts of no bytes", h, sha.Sum(h, []byte{}, nil, text[:0]), nil)
		hold(t, "4.2: empty parts around", h, sha.Sum(h, nil, text[:7], nil, []byte{}, text[7:], nil), text)
		for cut := range len(text) + 1 {
			hold(t, "4.2: two parts", h, sha.Sum(h, text[:cut], text[cut:]), text)
		}
		var single [][]byte
		for i := range text {
			single = append(single, text[i:i+1])
		}
		hold(t, "4.2: parts of one byte", h, sha.Sum(h, single...), text)
		hold(t, "4.2: one part many times", h, sha.Sum(h, text, text, text), slices.Concat(text, text, text))
		hold(t, "4.2: parts that overlap", h, sha.Sum(h, text[:200], text[100:]), slices.Concat(text[:200], text[100:]))
	}
}

// Which bytes are cut where must not show, but their order must.
func TestOrder(t *testing.T) {
	for _, h := range hashes {
		if bytes.Equal(sha.Sum(h, []byte("a"), []byte("bc")), sha.Sum(h, []byte("bc"), []byte("a"))) {
			t.Errorf("4.2: hash %d: parts in another order have one sum", h)
		}
	}
	if bytes.Equal(sha.Sum(api.SHA384, []byte("abc")), sha.Sum(api.SHA512, []byte("abc"))[:48]) {
		t.Error("4.2: SHA-384 is no piece of SHA-512")
	}
}

// All ways to cut texts of about two blocks into three writes at the places around the blocks' edges.
func TestCuts(t *testing.T) {
	for _, h := range hashes {
		block := sha.Block(h)
		text := drawn(2*block + 3)
		var places []int
		for _, edge := range []int{0, block / 2, block - block/8, block, 2*block - block/8, 2 * block} {
			for d := -2; d <= 2; d++ {
				if edge+d >= 0 {
					places = append(places, edge+d)
				}
			}
		}
		for _, i := range places {
			for _, j := range places {
				if i > j {
					continue
				}
				s := written(h, text[:i], text[i:j], text[j:])
				hold(t, "4.4", h, s.Sum(), text)
			}
		}
	}
}

func TestSteps(t *testing.T) {
	text := drawn(700)
	for _, h := range hashes {
		for _, step := range []int{1, 2, 3, 7, 55, 56, 57, 63, 64, 65, 111, 112, 113, 127, 128, 129, 200, 256, 300} {
			s := sha.New(h)
			hold(t, "4.3: of no bytes yet", h, s.Sum(), nil)
			for at := 0; at < len(text); at += step {
				end := min(at+step, len(text))
				s.Write(text[at:end])
				hold(t, "4.4", h, s.Sum(), text[:end])
				hold(t, "4.3: the state stays", h, s.Sum(), text[:end])
				s.Write(nil)
				s.Write([]byte{})
				hold(t, "4.4: writes of no bytes", h, s.Sum(), text[:end])
			}
		}
	}
}

// life: a state, and what was written to it.
type life struct {
	state *sha.State
	text  []byte
}

// Drawn runs of writes, sums and copies, over several states at once of several hashes.
func TestRuns(t *testing.T) {
	for seed := range int64(300) {
		r := rand.New(rand.NewSource(seed))
		lives := make(map[api.Hash][]life)
		for range 80 {
			h := hashes[r.Intn(3)]
			l := lives[h]
			if len(l) == 0 || r.Intn(20) == 0 {
				lives[h] = append(l, life{sha.New(h), nil})
				continue
			}
			i := r.Intn(len(l))
			switch r.Intn(4) {
			case 0, 1:
				b := make([]byte, r.Intn([]int{2, 20, 140, 600}[r.Intn(4)]))
				r.Read(b)
				l[i].state.Write(b)
				l[i].text = slices.Concat(l[i].text, b)
				clear(b)
			case 2:
				hold(t, "4.4", h, l[i].state.Sum(), l[i].text)
			case 3:
				lives[h] = append(l, life{l[i].state.Copy(), slices.Clone(l[i].text)})
			}
		}
		for h, l := range lives {
			for _, x := range l {
				hold(t, "4.4, 4.5", h, x.state.Sum(), x.text)
				hold(t, "4.2", h, sha.Sum(h, x.text), x.text)
			}
		}
	}
}

func TestCopies(t *testing.T) {
	text := drawn(280)
	other := drawn(281)
	for _, h := range hashes {
		for n := range len(text) + 1 {
			s := written(h, text[:n])
			c := s.Copy()
			if c == s {
				t.Fatalf("4.5: Copy of hash %d is the state itself", h)
			}
			hold(t, "4.3: a copy", h, c.Sum(), text[:n])
			c.Write(other)
			hold(t, "4.3: what is written to the copy", h, s.Sum(), text[:n])
			hold(t, "4.3: the copy goes on", h, c.Sum(), slices.Concat(text[:n], other))
			c = s.Copy()
			s.Write(other[:90])
			hold(t, "4.3: what is written to the state", h, c.Sum(), text[:n])
			hold(t, "4.3: the state goes on", h, s.Sum(), slices.Concat(text[:n], other[:90]))
			d := c.Copy()
			c.Write(other[:1])
			d.Write(other[1:2])
			hold(t, "4.3: a copy of a copy", h, d.Sum(), slices.Concat(text[:n], other[1:2]))
			hold(t, "4.3: the copy it was made of", h, c.Sum(), slices.Concat(text[:n], other[:1]))
			c.Sum()
			hold(t, "4.5", h, s.Sum(), slices.Concat(text[:n], other[:90]))
		}
	}
}

// A state is no more than its hash and what was written, however that was cut; Sum and Copy leave it as it was, to the last bit.
func TestStateStays(t *testing.T) {
	text := drawn(290)
	for _, h := range hashes {
		for n := range len(text) + 1 {
			whole := written(h, text[:n])
			before := *whole
			whole.Sum()
			whole.Copy().Write(text)
			if !reflect.DeepEqual(*whole, before) {
				t.Fatalf("4.3: Sum or Copy changed a state of hash %d, %d bytes", h, n)
			}
			cut := written(h, text[:n/3], nil, text[n/3:n/2], text[n/2:n])
			if !reflect.DeepEqual(cut, whole) {
				t.Fatalf("4.4: a state of hash %d, %d bytes, shows how it was cut", h, n)
			}
			if !reflect.DeepEqual(whole.Copy(), whole) {
				t.Fatalf("4.3: a copy of hash %d, %d bytes, is another", h, n)
			}
		}
	}
}

// roomy: a copy of b with bytes 0x5a in its spare room.
func roomy(b []byte) []byte {
	out := append(make([]byte, 0, len(b)+200), b...)
	rest := out[len(out):cap(out)]
	for i := range rest {
		rest[i] = 0x5a
	}
	return out
}

func whole(b []byte) []byte { return b[:cap(b)] }

func TestHandedIn(t *testing.T) {
	for _, h := range append(slices.Clone(hashes), 0, 4) {
		for _, n := range []int{0, 1, 50, 64, 65, 120, 128, 129, 400} {
			text := drawn(n)
			one, two := roomy(text), roomy(text)
			list := append(make([][]byte, 0, 5), one, two)
			spare := roomy([]byte("spare"))
			list[:3][2] = spare
			sha.Sum(h, list...)
			if s := sha.New(h); s != nil {
				s.Write(one)
				s.Sum()
				s.Write(one)
				s.Copy().Write(two)
				s.Sum()
			}
			for _, b := range [][]byte{one, two} {
				if !bytes.Equal(whole(b), whole(roomy(text))) {
					t.Fatalf("P2: hash %d changed the %d bytes that were handed in, or their spare room", h, n)
				}
			}
			if !bytes.Equal(whole(spare), whole(roomy([]byte("spare")))) {
				t.Fatalf("P2: hash %d changed what stands in the list's spare room", h)
			}
			full := list[:5]
			if &full[2][0] != &spare[0] || full[3] != nil || full[4] != nil || len(full[0]) != n || len(full[1]) != n {
				t.Fatalf("P2: hash %d changed the list of parts", h)
			}
		}
	}
}

func TestNotKept(t *testing.T) {
	for _, h := range hashes {
		for n := range 300 {
			text := drawn(n)
			b := roomy(text)
			s := written(h, b)
			c := s.Copy()
			for i := range whole(b) {
				whole(b)[i] ^= 0xff
			}
			hold(t, "4.5: a state kept what was handed in", h, s.Sum(), text)
			hold(t, "4.5: a copy kept what was handed in", h, c.Sum(), text)
			s.Write(b)
			hold(t, "4.5", h, s.Sum(), slices.Concat(text, b))
		}
	}
}

func TestHandedOut(t *testing.T) {
	for _, h := range hashes {
		for _, n := range []int{0, 1, 63, 64, 127, 128, 300} {
			text := drawn(n)
			s := written(h, text)
			sums := [][]byte{s.Sum(), s.Sum(), s.Copy().Sum(), sha.Sum(h, text), sha.Sum(h, text), sha.New(h).Sum(), sha.New(h).Sum()}
			texts := [][]byte{text, text, text, text, text, nil, nil}
			for i, b := range sums {
				for j := range whole(b) {
					whole(b)[j] ^= 0xff
				}
				for k := i + 1; k < len(sums); k++ {
					hold(t, "4.5: two answers share memory", h, sums[k], texts[k])
				}
				hold(t, "4.5: the state and its answer share memory", h, s.Sum(), text)
				hold(t, "4.5: later sums", h, sha.Sum(h, text), text)
			}
			s.Write(s.Sum())
			hold(t, "4.5: a sum written to its own state", h, s.Sum(), slices.Concat(text, want(h, text)))
		}
	}
}

// P3: what was summed ahead, of whatever hash, does not show; refusals leave nothing either.
func TestNothingKept(t *testing.T) {
	text := drawn(150)
	for _, h := range hashes {
		for _, ahead := range append(slices.Clone(hashes), 0, 4, -1) {
			sha.Sum(ahead, text, drawn(33))
			if s := sha.New(ahead); s != nil {
				s.Write(drawn(99))
			}
			hold(t, "P3", h, sha.Sum(h, text), text)
			hold(t, "P3", h, written(h, text).Sum(), text)
		}
	}
}

// Many at once, each with states of its own; and one state that all of them ask and copy.
func TestAtOnce(t *testing.T) {
	text := drawn(500)
	for _, h := range hashes {
		shared := written(h, text)
		var wg sync.WaitGroup
		for k := range 16 {
			wg.Go(func() {
				own := drawn(100 + k)
				for range 100 {
					s := written(h, own[:k], own[k:])
					c := shared.Copy()
					c.Write(own)
					if !bytes.Equal(s.Sum(), want(h, own)) || !bytes.Equal(sha.Sum(h, own), want(h, own)) {
						t.Errorf("P3: hash %d, worker %d", h, k)
					}
					if !bytes.Equal(shared.Sum(), want(h, text)) || !bytes.Equal(c.Sum(), want(h, slices.Concat(text, own))) {
						t.Errorf("4.3: hash %d, worker %d, of the state that all ask", h, k)
					}
				}
			})
		}
		wg.Wait()
	}
}

func FuzzCuts(f *testing.F) {
	f.Add(1, []byte("abc"), 1, 2)
	f.Add(2, drawn(200), 100, 130)
	f.Add(3, drawn(129), 0, 128)
	f.Add(0, drawn(1), -1, 5)
	f.Fuzz(func(t *testing.T, hash int, text []byte, i, j int) {
		h := api.Hash(hash)
		i = max(0, min(i, len(text)))
		j = max(i, min(j, len(text)))
		hold(t, "4.2", h, sha.Sum(h, text), text)
		hold(t, "4.2", h, sha.Sum(h, text[:i], text[i:j], text[j:]), text)
		if s := sha.New(h); s != nil {
			s.Write(text[:i])
			c := s.Copy()
			s.Write(text[i:j])
			s.Sum()
			s.Write(text[j:])
			hold(t, "4.4", h, s.Sum(), text)
			hold(t, "4.5", h, c.Sum(), text[:i])
		} else if sha.Size(h) != 0 {
			t.Fatalf("4.3: New(%d) is nil", h)
		}
	})
}
