package replay_test

import (
	"bytes"
	"math/rand"
	"strings"
	"testing"

	"signet/api"
	"signet/replay"
)

// wildImage: bytes of any kind; most often an image with things changed, its sum often made right.
func wildImage(r *rand.Rand) []byte {
	if r.Intn(5) == 0 {
		l := make([]byte, r.Intn(60))
		r.Read(l)
		return l
	}
	l := pick(r, someBooks()).body()
	for range r.Intn(4) {
		i := r.Intn(len(l))
		switch r.Intn(5) {
		case 0:
			l[i] = pick(r, []byte{0, 1, 4, 5, 16, 127, 128, 255, byte(r.Intn(256))})
		case 1:
			l[i]++
		case 2:
			l = append(l[:i], l[i+1:]...)
		case 3:
			l = append(l[:i], append([]byte{byte(r.Intn(256))}, l[i:]...)...)
		default:
			l = append(l, l[i:]...)
		}
		if len(l) == 0 {
			return l
		}
	}
	if r.Intn(3) > 0 {
		l = sealed(l)
	}
	if r.Intn(10) == 0 {
		l = l[:r.Intn(len(l)+1)]
	}
	return l
}

// P1: bytes of any kind are answered by the chapter's words.
func TestWildImages(t *testing.T) {
	t.Parallel()
	r := rand.New(rand.NewSource(5))
	taken := 0
	for range 100000 {
		if b, _ := holdOpen(t, wildImage(r)); b != nil {
			taken++
		}
	}
	if taken < 1000 {
		t.Errorf("only %d images were taken", taken)
	}
}

// P1: names and clocks of any kind, in books of any kind.
func TestWildTakes(t *testing.T) {
	t.Parallel()
	r := rand.New(rand.NewSource(6))
	for range 300 {
		x := newRun(t, *pick(r, someBooks()))
		for range 60 {
			jti := make([]byte, pick(r, []int{0, 1, 1, 2, 3, 1023, 1024, 1025, 1026, 3000}))
			if r.Intn(2) == 0 {
				r.Read(jti)
			}
			times := []int64{low, low + 1, -1, 0, 1, high - 1, high, x.slow.clock, near(x.slow.clock, 1), near(x.slow.clock, -1), int64(r.Uint64())}
			x.take(t, string(jti), pick(r, times), pick(r, times))
		}
		x.hold(t)
		x.reopen(t)
		holdBook(t, x.books[0], x.slow)
	}
}

// P1: what is far greater than any image is refused where its first fault is.
func TestHugeImages(t *testing.T) {
	t.Parallel()
	huge := make([]byte, 1<<26)
	mustRefuse(t, 0, huge)
	l := replay.New().Image()
	copy(huge, l)
	mustRefuse(t, len(l), huge)
	clear(huge)
	copy(huge, []byte{82, 1, 1, 0, 0, 0, 0, 0, 0, 0, 0, 255, 255, 255, 255})
	mustRefuse(t, 11, huge)
	copy(huge[11:], []byte{0, 0, 16, 0})
	mustRefuse(t, 27, huge)
}

// FuzzOpen: any bytes, with their sum made right too; then a few Takes of what was opened.
func FuzzOpen(f *testing.F) {
	for _, s := range someBooks() {
		f.Add(s.body(), "a", int64(5), int64(5))
		f.Add(s.image(), strings.Repeat("b", 255), int64(high), int64(300))
	}
	f.Fuzz(func(t *testing.T, l []byte, jti string, until, now int64) {
		holdOpen(t, l)
		b, s := holdOpen(t, sealed(l))
		if b == nil {
			b, s = replay.New(), &slow{}
		}
		for _, end := range []int64{until, now, s.clock, high} {
			if code := holdTake(t, b, s, jti, end, now); code == api.OK && !bytes.Equal(mustOpen(t, b.Image()).Image(), b.Image()) {
				t.Fatal("23.6: the image of what was opened of an image is another one")
			}
			holdTake(t, b, s, jti+"\x00", until, end)
		}
		holdBook(t, b, s, jti)
	})
}
