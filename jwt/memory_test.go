package jwt_test

import (
	"fmt"
	"math/rand"
	"slices"
	"strings"
	"sync"
	"testing"
	"unsafe"

	"signet/api"
	"signet/jwt"
)

// alias: a text that lies in memory which the test can change.
func alias(memory []byte) string { return unsafe.String(unsafe.SliceData(memory), len(memory)) }

// given: a plan's token, key set and policy in memory that the test can change: the texts one behind the other, the policy's lists as pieces of one list, with marks between and all behind them as their spare room.
type given struct {
	token, keys string
	policy      api.Policy
	bytes       []byte
	texts       []string
}

func lay(token, keys string, p api.Policy) *given {
	g := &given{policy: p, bytes: make([]byte, 0, len(token)+len(keys)+4096)}
	text := func(s string) string {
		from := len(g.bytes)
		g.bytes = append(append(g.bytes, s...), "marked"...)
		return alias(g.bytes[from : from+len(s)])
	}
	g.token, g.keys = text(token), text(keys)
	g.policy.Iss, g.policy.Aud, g.policy.Typ = text(p.Iss), text(p.Aud), text(p.Typ)
	mark := []string{"mark", "none", "exp", "\xff"}
	var algs, need []string
	for _, s := range p.Algs {
		algs = append(algs, text(s))
	}
	for _, s := range p.Need {
		need = append(need, text(s))
	}
	g.texts = slices.Concat(mark, algs, mark, need, mark)
	g.policy.Algs = g.texts[4 : 4+len(algs)]
	g.policy.Need = g.texts[8+len(algs) : 8+len(algs)+len(need)]
	return g
}

// now: all that is handed in, as it is.
func (g *given) now() string { return fmt.Sprintf("%q %q", g.bytes[:cap(g.bytes)], g.texts) }

func (g *given) spoil() {
	for i := range g.texts {
		g.texts[i] = "spoilt"
	}
	for i := range g.bytes[:cap(g.bytes)] {
		g.bytes[:cap(g.bytes)][i] ^= 0xff
	}
}

func spoilNodes(v []api.Node) {
	for i := range v[:cap(v)] {
		v[:cap(v)][i] = api.Node{Kind: 77, Key: "spoilt", Text: "spoilt", Int: 7, Kids: -3}
	}
}

func spoilTexts(l []string) {
	for i := range l[:cap(l)] {
		l[:cap(l)][i] = "spoilt"
	}
}

// room: the claims with the spare room of their lists.
func room(c api.Claims) string {
	return fmt.Sprintf("%+v %q %+v", c.Value[:cap(c.Value)], c.Aud[:cap(c.Aud)], fields(c))
}

// memoryPlans: right ones with lists of many lengths, and one of each fault.
func memoryPlans() []*plan {
	var l []*plan
	for i, c := range rows {
		for n := range 9 {
			p := right(c)
			var auds []string
			for j := range n + i {
				auds = append(auds, quoted(fmt.Sprint("a", j)))
			}
			p.pay = put(put(p.pay, "aud", "["+strings.Join(append(auds, `"you"`), ",")+"]"), "sub", `"so\u006de"`)
			l = append(l, p)
		}
	}
	for _, f := range faults(rows[2]) {
		p := right(rows[2])
		f.spoil(p)
		l = append(l, p)
	}
	return l
}

// P2 and P3: nothing that is handed in is changed, and no answer shares memory with it, with itself, or with another answer.
func TestMemory(t *testing.T) {
	t.Parallel()
	for _, p := range memoryPlans() {
		token, keys := p.token(), p.keys()
		wanted, wantCode := jwt.Verify(token, keys, p.policy, p.now)
		judge, w, judged := jwt.Judge(token, keys, p.policy)
		g := lay(token, keys, p.policy)
		was := g.now()
		var answers [4]api.Claims
		for i := range answers {
			code := wantCode
			if i%2 == 0 {
				answers[i], code = jwt.Verify(g.token, g.keys, g.policy, p.now)
				if code != wantCode || !same(answers[i], wanted) {
					t.Fatalf("P3: Verify(%.900q) hangs on spare room, or on what was asked ahead", token)
				}
				continue
			}
			again := api.Window{}
			if answers[i], again, code = jwt.Judge(g.token, g.keys, g.policy); code != judged || again != w || !same(answers[i], judge) {
				t.Fatalf("P3: Judge(%.900q) hangs on spare room, or on what was asked ahead", token)
			}
		}
		if g.now() != was {
			t.Fatalf("P2: a call changes what is handed in, or the room behind it: %.900q", token)
		}
		for i, whole := range []api.Claims{wanted, judge} {
			c, other := answers[i], answers[i+2]
			behind := room(other)
			spoilNodes(c.Value[len(c.Value):])
			spoilTexts(c.Aud[len(c.Aud):])
			if !same(c, whole) {
				t.Fatalf("P2: %.900q: what is laid behind one list shows in another", token)
			}
			spoilNodes(c.Value)
			if !slices.Equal(c.Aud, whole.Aud) {
				t.Fatalf("P2: %.900q: two lists of one answer share memory", token)
			}
			spoilTexts(c.Aud)
			if g.now() != was || room(other) != behind {
				t.Fatalf("P2: %.900q: an answer shares memory with what is handed in, or with another one", token)
			}
		}
		g.spoil()
		if !same(answers[2], wanted) || !same(answers[3], judge) {
			t.Fatalf("P2: %.900q: an answer goes with what was handed in", token)
		}
		hold(t, token, keys, p.policy, p.now)
	}
}

// What is handed in may change between two calls: each is answered as things are then.
func TestChangedBetween(t *testing.T) {
	t.Parallel()
	p := right(rows[11])
	g := lay(p.token(), p.keys(), p.policy)
	ask := func(want api.Errno) {
		t.Helper()
		if _, code := jwt.Verify(g.token, g.keys, g.policy, p.now); code != want {
			t.Fatalf("P3: %d, want %d", int(code), int(want))
		}
	}
	ask(api.OK)
	g.policy.Algs[1] = "HS256"
	ask(api.ErrBarred)
	g.policy.Algs[0] = "EdDSA"
	ask(api.OK)
	g.policy.Need[0] = "nonce"
	ask(api.ErrMissing)
	g.policy.Need[0] = "exp"
	g.bytes[len(p.token())-3] ^= 1
	ask(api.ErrSignature)
	g.bytes[len(p.token())-3] ^= 1
	ask(api.OK)
	at := strings.Index(string(g.bytes), `"kid":"k"`)
	g.bytes[at+7] = 'z'
	ask(api.ErrNoKey)
}

// Token and key set may be one memory.
func TestOneMemory(t *testing.T) {
	t.Parallel()
	p := right(rows[0])
	token := p.token()
	memory := []byte(token)
	for _, keys := range []string{alias(memory), alias(memory[:20]), ""} {
		hold(t, alias(memory), keys, p.policy, p.now)
		hold(t, keys, alias(memory), p.policy, p.now)
	}
	if string(memory) != token {
		t.Fatal("P2: a call changes the token")
	}
}

// P3: calls at the same time know nothing of each other, over one policy and one key set.
func TestAtOnce(t *testing.T) {
	t.Parallel()
	plans := memoryPlans()
	var tokens, keys []string
	for _, p := range plans {
		tokens, keys = append(tokens, p.token()), append(keys, p.keys())
	}
	var work sync.WaitGroup
	for worker := range 8 {
		work.Go(func() {
			r := rand.New(rand.NewSource(int64(worker)))
			for range 60 {
				i := r.Intn(len(plans))
				p := plans[i]
				wanted, judged := want(tokens[i], keys[i], p.policy)
				c, w, code := jwt.Judge(tokens[i], keys[i], p.policy)
				if code != judged || !same(c, wanted) || code == api.OK && w.To != wanted.Exp.At+9 {
					t.Errorf("P3: worker %d: Judge(%.900q) = %s, %+v, %d", worker, tokens[i], short(c), w, int(code))
				}
				spoilNodes(c.Value)
				spoilTexts(c.Aud)
				if _, code := jwt.Verify(tokens[i], keys[i], p.policy, 2010); judged == api.OK && code != api.ErrExpired {
					t.Errorf("P3: worker %d: Verify(%.900q) = %d", worker, tokens[i], int(code))
				}
			}
		})
	}
	work.Wait()
}
