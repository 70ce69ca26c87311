package serial_test

import (
	"math/rand"
	"slices"
	"strings"
	"testing"

	"signet/api"
)

// wildly: a text with some bytes put in, taken away and changed.
func wildly(r *rand.Rand, s, with string) string {
	b := []byte(s)
	for range 1 + r.Intn(3) {
		at := r.Intn(len(b) + 1)
		switch c := with[r.Intn(len(with))]; {
		case r.Intn(3) == 0 || at == len(b):
			b = slices.Insert(b, at, c)
		case r.Intn(2) == 0:
			b = slices.Delete(b, at, at+1)
		default:
			b[at] = c
		}
	}
	return string(b)
}

const wildBytes = `{}[]":,\upays01.- ` + "\xff\x00"

func wildPolicy(r *rand.Rand, p api.Policy) api.Policy {
	switch r.Intn(9) {
	case 0:
		p.Leeway = int64(r.Uint64())
	case 1:
		p.Algs = []string{drawnText(r), "none", "HS512"}
	case 2:
		p.Need = []string{"\xff"}
	case 3:
		p.HasAud, p.HasIss = !p.HasAud, !p.HasIss
	}
	return p
}

// P1: texts, key sets and policies that nearly are some.
func TestWild(t *testing.T) {
	t.Parallel()
	r := rand.New(rand.NewSource(9))
	right, wrong, _ := bench()
	right = right[:8]
	met := map[api.Errno]int{}
	for range 2500 {
		var tokens []string
		for range 1 + r.Intn(4) {
			tokens = append(tokens, pick(r, append(right, wrong[:2]...)).token(body))
		}
		text, keys := generalText(tokens...), setOf(right...)
		if r.Intn(4) == 0 {
			text = flattened(tokens[0])
		}
		switch r.Intn(4) {
		case 0:
			text = wildly(r, text, wildBytes)
		case 1:
			keys = wildly(r, keys, wildBytes)
		}
		want := pick(r, []int{1, 1, 1, 2, 2, 3, 16, 0, 17, -1, low, high})
		_, _, code := holdVerify(t, text, keys, wildPolicy(r, asked()), pick(r, []int64{1500, 1500, 1500, low, high, 2009, 2010}), want)
		met[code]++
		holdTokens(t, text)
		for i := range tokens {
			if r.Intn(3) == 0 {
				tokens[i] = wildly(r, tokens[i], wildBytes)
			}
		}
		holdGeneral(t, tokens)
	}
	for _, code := range []api.Errno{api.OK, api.ErrPolicy, api.ErrFew, api.ErrSerial, api.ErrJson} {
		if met[code] < 20 {
			t.Fatalf("%d of %d: %v", met[code], int(code), met)
		}
	}
}

// Texts of any bytes.
func TestWildTexts(t *testing.T) {
	t.Parallel()
	r := rand.New(rand.NewSource(10))
	drawn := func(n int) string {
		b := make([]byte, r.Intn(n))
		for i := range b {
			b[i] = wildBytes[r.Intn(len(wildBytes))]
		}
		return string(b)
	}
	for range 20000 {
		text, keys := drawn(40), drawn(20)
		holdTokens(t, text)
		holdVerify(t, text, keys, api.Policy{Algs: namesOfAll()}, 0, 1)
		var tokens []string
		for range r.Intn(3) {
			tokens = append(tokens, drawn(12))
		}
		holdGeneral(t, tokens)
	}
	holdVerify(t, "", "", api.Policy{}, low, 0)
	holdGeneral(t, []string{})
	holdGeneral(t, nil)
}

// Every beginning and every end of a text.
func TestCut(t *testing.T) {
	t.Parallel()
	a, b := secretHand(0, "a"), secretHand(1, "b")
	text, keys := generalText(tokensOf(body, a, b)...), setOf(a, b)
	for i := range text {
		holdVerify(t, text[:i], keys, asked(), 1500, 1)
		holdVerify(t, text[i:], keys, asked(), 1500, 1)
		holdVerify(t, text[:i]+text[i+1:], keys, asked(), 1500, 1)
	}
	for i := range keys {
		holdVerify(t, text, keys[:i], asked(), 1500, 1)
	}
}

// Texts that are broad and deep: many members, many signatures, all the brackets that may be.
func TestBroad(t *testing.T) {
	t.Parallel()
	many := strings.TrimSuffix(strings.Repeat(`{"protected":"","signature":""},`, 8000), ",")
	mustTokens(t, "many signatures", `{"payload":"","signatures":[`+many+`]}`, api.ErrSerial)
	mustTokens(t, "a long list", `{"payload":"","signatures":[`+strings.Repeat("0,", 130000)+`0]}`, api.ErrSerial)
	mustTokens(t, "a long list", `[`+strings.Repeat("0,", 131000)+`0]`, api.ErrSerial)
	var members []string
	for i := range 20000 {
		members = append(members, quoted(strings.Repeat("p", i%3)+string(rune('0'+i)))+`:""`)
	}
	mustTokens(t, "many members", `{"payload":"","protected":"","signature":"",`+strings.Join(slices.Compact(slices.Sorted(slices.Values(members))), ",")+`}`, api.ErrSerial)
	mustTokens(t, "deep", `{"payload":"","signatures":`+strings.Repeat("[", 31)+strings.Repeat("]", 31)+`}`, api.ErrSerial)
	mustTokens(t, "deeper", `{"payload":"","signatures":`+strings.Repeat("[", 32)+strings.Repeat("]", 32)+`}`, api.ErrDeep)
	mustTokens(t, "deep in a signature", `{"payload":"","signatures":[{"protected":"","signature":`+strings.Repeat("[", 29)+strings.Repeat("]", 29)+`}]}`, api.ErrSerial)
}

func FuzzCalls(f *testing.F) {
	a, b := secretHand(0, "a"), secretHand(1, "b")
	tokens := tokensOf(body, a, b)
	f.Add(generalText(tokens...), setOf(a, b), tokens[0], tokens[1], `{"alg":"HS256","kid":"a"}`, body, int64(10), int64(1500), 2)
	f.Add(flattened(tokens[0]), "", "a.p.s", "..", `{"alg":"HS256","kid":"\u0061"}`, `{}`, int64(0), int64(0), 1)
	f.Add(`{"signatures":[{"signature":"cw","protected":"aA"},{"protected":"","signature":"eA"}],"payload":""}`, "{}", "", "\xff..", "", "", int64(-1), int64(low), 17)
	f.Fuzz(func(t *testing.T, text, keys, first, second, head, pay string, leeway, now int64, want int) {
		holdTokens(t, text)
		holdGeneral(t, []string{first})
		holdGeneral(t, []string{first, second})
		holdGeneral(t, []string{second, first, second})
		p := asked()
		p.Leeway = leeway
		p.HasIss, p.HasAud = len(text)%2 == 0, len(text)%3 == 0
		made := generalText(a.tokenOf(head, pay), a.tokenOf(`{"alg":"HS256","kid":"a"}`, pay), b.tokenOf(`{"alg":"HS384","kid":"b"}`, pay))
		for _, x := range []string{text, made} {
			for _, y := range []string{keys, setOf(a, b)} {
				holdVerify(t, x, y, p, now, want)
				holdVerify(t, x, y, p, now, 1)
			}
		}
	})
}
