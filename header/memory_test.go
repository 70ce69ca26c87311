package header_test

import (
	"math/rand"
	"slices"
	"strings"
	"sync"
	"testing"

	"signet/api"
	"signet/header"
)

// P2 and P3 of Allow: its lists lie in a memory that is marked, and of which all is looked at behind the call.
func TestPolicyMemory(t *testing.T) {
	t.Parallel()
	r := rand.New(rand.NewSource(6))
	for range 3000 {
		listed := names[:r.Intn(len(names)+1)]
		memory := slices.Concat([]string{"mark", "EdDSA"}, listed, []string{"EdDSA", "HS256", "JWT", ""})
		was := slices.Clone(memory)
		p := api.Policy{Algs: memory[2 : 2+len(listed)], Need: memory[:1], HasTyp: r.Intn(2) == 0, Typ: "JWT"}
		bare := api.Policy{Algs: slices.Clip(slices.Clone(listed)), HasTyp: p.HasTyp, Typ: p.Typ}
		for _, a := range algs {
			h := api.Header{Alg: a, Kid: "k", HasTyp: r.Intn(2) == 0, Typ: pick(r, []string{"JWT", "jwt"})}
			first, second := holdAllow(t, p, h), holdAllow(t, p, h)
			if first != second || first != holdAllow(t, bare, h) {
				t.Fatalf("P3: Allow(%s, %s) hangs on spare room, or on what was asked ahead", short(p), short(h))
			}
		}
		if !slices.Equal(memory, was) {
			t.Fatalf("P2: Allow changes its policy: %q, was %q", memory, was)
		}
	}
}

// A text that is made of bytes which change afterwards leaves the answer as it was.
func TestTextMemory(t *testing.T) {
	t.Parallel()
	r := rand.New(rand.NewSource(7))
	for range 3000 {
		want := drawnHeader(r)
		b := []byte(text(r, membersOf(r, nameOf(want.Alg), want)...))
		h, code := header.Parse(string(b))
		shortest, printed := header.Print(h)
		clear(b)
		if code != api.OK || printed != api.OK || h != want {
			t.Fatalf("P2: Parse = %s, %d, want %s", short(h), int(code), short(want))
		}
		if again, _ := wantPrint(want); again != shortest {
			t.Fatalf("P2: Print = %q, want %q", shortest, again)
		}
	}
}

// One header's members do not show in the next one's.
func TestNothingKept(t *testing.T) {
	t.Parallel()
	for range 3 {
		mustRead(t, `{"alg":"HS256","kid":"a","typ":"JWT"}`, api.Header{Alg: api.HS256, Kid: "a", Typ: "JWT", HasTyp: true})
		mustParse(t, api.ErrHeader, `{}`)
		mustParse(t, api.ErrHeader, `{"alg":"HS256"}`)
		mustParse(t, api.ErrHeader, `{"kid":"a"}`)
		mustRead(t, `{"alg":"HS384","kid":""}`, api.Header{Alg: api.HS384})
		mustParse(t, api.ErrAlg, `{"alg":"","kid":""}`)
	}
}

// P3: calls at the same time know nothing of each other.
func TestAtOnce(t *testing.T) {
	t.Parallel()
	p := api.Policy{Algs: []string{"HS256", "ES256", "none"}, HasTyp: true, Typ: "JWT"}
	var work sync.WaitGroup
	for worker := range 8 {
		work.Go(func() {
			r := rand.New(rand.NewSource(int64(worker)))
			for range 1500 {
				want := drawnHeader(r)
				doc := text(r, membersOf(r, nameOf(want.Alg), want)...)
				h, code := header.Parse(doc)
				if code != api.OK || h != want {
					t.Errorf("P3: worker %d: Parse(%q) = %s, %d", worker, doc, short(h), int(code))
				}
				if code := header.Allow(p, h); code != wantAllow(p, h) {
					t.Errorf("P3: worker %d: Allow(%s) = %d", worker, short(h), int(code))
				}
				if got, code := header.Print(h); code != api.OK || !strings.HasPrefix(got, `{"alg":"`+nameOf(h.Alg)+`"`) {
					t.Errorf("P3: worker %d: Print(%s) = %q, %d", worker, short(h), got, int(code))
				}
			}
		})
	}
	work.Wait()
}
