package gate_test

import (
	"math/rand"
	"runtime"
	"slices"
	"strconv"
	"strings"
	"testing"

	"signet/api"
	"signet/gate"
)

// 26.4: of no token nothing is answered, and no clock is moved.
func TestNoToken(t *testing.T) {
	t.Parallel()
	for _, tokens := range [][]string{nil, {}, make([]string, 0, 5)} {
		x := mustNew(t, asked, "")
		x.mustBatch(t, tokens, high)
		x.mustRotate(t, api.OK, usual, 100, 0)
		x.mustBatch(t, tokens, 50)
		x.mustBatch(t, tokens, high)
		x.mustTake(t, api.OK, ticket(by(), "a", 900), 100)
		x.mustBatch(t, tokens, 900)
		x.mustLen(t, 1)
		x.mustTake(t, api.ErrReplay, ticket(by(), "a", 900), 100)
	}
}

// mixed: tokens of all sorts; some of those that are right stand twice.
func mixed(r *rand.Rand, count int) []string {
	var l []string
	for i := range count {
		jti := strconv.Itoa(r.Intn(count))
		switch r.Intn(12) {
		case 0:
			l = append(l, pick(r, []string{"", "..", "a.b", pays(`[]`), pays(`{}`), "!" + pays(`{}`), ticket(by(), strings.Repeat("j", 1023), 900)}))
		case 1:
			l = append(l, signed(headOf("k"), claim(by(), jti, 900), "y"))
		case 2:
			l = append(l, ticket(by(), jti, 900, `,"bad":[1]`))
		case 3:
			l = append(l, ticket(by(), jti, 100+int64(r.Intn(2))))
		case 4, 5:
			if i > 0 {
				l = append(l, l[r.Intn(i)])
				continue
			}
			fallthrough
		default:
			l = append(l, ticket(pick(r, [][]string{by(), by(""), by("joe")}), jti, 200+int64(r.Intn(3)), `,"sub":`+quoted(strconv.Itoa(i))))
		}
	}
	return l
}

// A batch of each size is answered what Takes of its tokens are answered, and leaves behind what they leave.
func TestSizes(t *testing.T) {
	t.Parallel()
	r := rand.New(rand.NewSource(1))
	sizes := []int{191, 192, 193, 255, 256, 257, 500, 1000}
	for size := range 140 {
		sizes = append(sizes, size)
	}
	for _, size := range sizes {
		x, y := openWith(t, 0, "not has bad"), openWith(t, 0, "not has bad")
		tokens := mixed(r, size)
		l := x.batch(t, tokens, 100)
		for i, token := range tokens {
			if c, code := y.gate.Take(token, 100); code != l[i].Code || !same(c, l[i].Claims) {
				t.Fatalf("26.4: Batch says %s of what Take says %d, %s of", short(l[i]), int(code), short(c))
			}
		}
		if x.gate.Len() != y.gate.Len() {
			t.Fatalf("26.4: behind a batch %d names are kept, behind Takes %d", x.gate.Len(), y.gate.Len())
		}
		again := x.batch(t, tokens, 100)
		for i, v := range l {
			want := v.Code
			if want == api.OK {
				want = api.ErrReplay
			}
			if again[i].Code != want {
				t.Fatalf("26.4: %d, and once more %d", int(v.Code), int(again[i].Code))
			}
		}
	}
}

// One token, many times: the first one is let by, wherever it stands.
func TestOneOfMany(t *testing.T) {
	t.Parallel()
	token := ticket(by("joe"), "a", 900)
	for _, ahead := range []int{0, 1, 62, 63, 64, 65, 130} {
		x := open(t, 0)
		tokens := slices.Concat(slices.Repeat([]string{"x"}, ahead), slices.Repeat([]string{token}, 300))
		for i, v := range x.batch(t, tokens, 5) {
			want := api.ErrReplay
			switch {
			case i < ahead:
				want = api.ErrDots
			case i == ahead:
				want = api.OK
			}
			if v.Code != want {
				t.Fatalf("26.4: token %d: %d, want %d", i, int(v.Code), int(want))
			}
		}
	}
}

// Each verdict stands at its token's place, whichever token takes longer.
func TestPlaces(t *testing.T) {
	t.Parallel()
	r := rand.New(rand.NewSource(2))
	for range 20 {
		x := open(t, 0)
		var tokens []string
		order := r.Perm(150)
		for _, n := range order {
			tokens = append(tokens, ticket(by(), strconv.Itoa(n), 900, `,"n":[0`, strings.Repeat(",0", r.Intn(4)*r.Intn(1000)), "]"))
		}
		for i, v := range x.batch(t, tokens, 5) {
			if v.Code != api.OK || v.Claims.Jti != strconv.Itoa(order[i]) {
				t.Fatalf("26.4: token %d, %d: %s", i, order[i], short(v))
			}
		}
	}
}

// A batch that is back is refused token by token, and changes nothing.
func TestBackBatch(t *testing.T) {
	t.Parallel()
	x := open(t, 0)
	x.mustTake(t, api.OK, ticket(by(), "a", 900), 100)
	for _, now := range []int64{low, 0, 99} {
		for i, v := range x.batch(t, tickets("b", 100, 900), now) {
			if v.Code != api.ErrBack {
				t.Fatalf("26.4: token %d: %d", i, int(v.Code))
			}
		}
	}
	x.mustLen(t, 1)
	x.mustTake(t, api.OK, tickets("b", 100, 900)[50], 100)
}

// Nothing of a batch goes on behind its answer. (Not parallel, so that nothing else runs.)
func TestNothingGoesOn(t *testing.T) {
	x := open(t, 0)
	tokens := append(tickets("a", 300, 900), "x", ticket(by(), "big", 900, `,"n":[0`, strings.Repeat(",0", 20000), "]"))
	running := runtime.NumGoroutine()
	x.batch(t, tokens, 5)
	for range 1000000 { // the last steps of a goroutine that has done its work
		if runtime.NumGoroutine() <= running {
			return
		}
		runtime.Gosched()
	}
	t.Errorf("%d goroutines are running, %d were", runtime.NumGoroutine(), running)
}

// P1: far more tokens than any gate keeps.
func TestHugeBatch(t *testing.T) {
	t.Parallel()
	g, _ := gate.New(asked, "")
	g.Rotate(usual, 0, 0)
	tokens := make([]string, 1<<18)
	tokens[1<<17], tokens[1<<18-1] = ticket(by(), "a", 900), ticket(by(), "a", 900)
	for i, v := range g.Batch(tokens, 5) {
		want := api.ErrDots
		switch i {
		case 1 << 17:
			want = api.OK
		case 1<<18 - 1:
			want = api.ErrReplay
		}
		if v.Code != want {
			t.Fatalf("26.4: token %d: %d", i, int(v.Code))
		}
	}
}
