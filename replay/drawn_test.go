package replay_test

import (
	"bytes"
	"fmt"
	"math/rand"
	"slices"
	"testing"

	"signet/api"
	"signet/replay"
)

func pick[T any](r *rand.Rand, of []T) T { return of[r.Intn(len(of))] }

// told: one Take of a run, and its answer.
type told struct {
	jti        string
	until, now int64
	code       api.Errno
}

// run: books that are told the same, the slow one, what they began with, and what they were told since.
type run struct {
	books []*replay.Book
	slow  *slow
	start slow
	log   []told
}

func newRun(t *testing.T, start slow) *run {
	t.Helper()
	s := start
	s.kept = slices.Clone(start.kept)
	b := replay.New()
	if s.hasClock {
		b = mustOpen(t, s.image())
	}
	return &run{books: []*replay.Book{b}, slow: &s, start: start}
}

// take asks all books; the slow one is told once, the others are held against the first.
func (x *run) take(t *testing.T, jti string, until, now int64) api.Errno {
	t.Helper()
	code := holdTake(t, x.books[0], x.slow, jti, until, now)
	for i, b := range x.books[1:] {
		if got := b.Take(jti, until, now); got != code {
			t.Fatalf("23.6: the book and what was opened of its image at %d: Take(%s, %d, %d) = %d and %d", i+1, quoted(jti), until, now, int(code), int(got))
		}
		holdNumbers(t, b, x.slow)
	}
	x.log = append(x.log, told{jti, until, now, code})
	return code
}

// reopen: one book more, opened of the first one's image; the oldest of more than three goes.
func (x *run) reopen(t *testing.T) {
	t.Helper()
	b, _ := holdOpen(t, x.books[0].Image())
	x.books = append(x.books, b)
	x.books = x.books[max(0, len(x.books)-3):]
}

// clock: the greatest that the first so many Takes moved the book to, by what was told alone.
func (x *run) clock(count int) (int64, bool) {
	clock, has := x.start.clock, x.start.hasClock
	for _, e := range x.log[:count] {
		if e.code != api.ErrLarge && e.code != api.ErrBack && (!has || e.now > clock) {
			clock, has = e.now, true
		}
	}
	return clock, has
}

// taken: each name that was there at the beginning or was let by in the first so many Takes, with its last end, and how many.
func (x *run) taken(count int) map[string]int64 {
	last := map[string]int64{}
	for _, n := range x.start.kept {
		last[n.jti] = n.end
	}
	for _, e := range x.log[:count] {
		if e.code == api.OK {
			last[e.jti] = e.until
		}
	}
	return last
}

// live: how many of these have an end that is not below the clock.
func live(ends map[string]int64, clock int64) int {
	n := 0
	for _, end := range ends {
		if end >= clock {
			n++
		}
	}
	return n
}

// hold: 23.7, 23.8 and 23.9 in their own words, of all that was told.
func (x *run) hold(t *testing.T) {
	t.Helper()
	x.holdOnce(t)
	for i, e := range x.log {
		if !x.reason(i) {
			t.Fatalf("23.8: the Take %d, of %s up to %d at %d, is answered %d without a reason", i, quoted(e.jti), e.until, e.now, int(e.code))
		}
	}
	x.holdKept(t)
}

func (x *run) holdOnce(t *testing.T) {
	t.Helper()
	for j, second := range x.log {
		for _, first := range x.log[:j] {
			if first.code == api.OK && second.code == api.OK && first.jti == second.jti && first.until >= second.now {
				t.Fatalf("23.7: %s is let by up to %d, and again at %d", quoted(first.jti), first.until, second.now)
			}
		}
	}
}

// reason: is there one for the answer to that Take?
func (x *run) reason(i int) bool {
	e := x.log[i]
	switch e.code {
	case api.OK:
		return e.until >= e.now && len(e.jti) <= 1024
	case api.ErrLarge:
		return len(e.jti) > 1024
	case api.ErrBack:
		clock, has := x.clock(i)
		return has && e.now < clock
	case api.ErrExpired:
		return e.until < e.now
	case api.ErrReplay:
		end, was := x.taken(i)[e.jti]
		return was && end >= e.now
	case api.ErrFull:
		return live(x.taken(i), e.now) == 4096
	}
	return false
}

func (x *run) holdKept(t *testing.T) {
	t.Helper()
	clock, has := x.clock(len(x.log))
	taken := x.taken(len(x.log))
	for _, b := range x.books {
		if last, ok := b.Last(); last != clock || ok != has || b.Len() != live(taken, clock) {
			t.Fatalf("23.9: %d names, the clock %d, %v; want %d, %d, %v", b.Len(), last, ok, live(taken, clock), clock, has)
		}
		for jti, end := range taken {
			if b.Has(jti) != (end >= clock) {
				t.Fatalf("23.9: %s, with the end %d, at %d: Has is %v", quoted(jti), end, clock, b.Has(jti))
			}
		}
		for _, e := range x.log {
			if _, was := taken[e.jti]; !was && b.Has(e.jti) {
				t.Fatalf("23.9: %s is kept, and was never let by", quoted(e.jti))
			}
		}
	}
}

// near: a number that is some steps away, cut at the ends of int64.
func near(n, steps int64) int64 {
	switch {
	case steps > 0 && n > high-steps:
		return high
	case steps < 0 && n < low-steps:
		return low
	}
	return n + steps
}

// drawnTake: a name of a small pool, a clock that most often moves on a little, an end that is most often near it.
func drawnTake(r *rand.Rand, clock int64, pool int) (jti string, until, now int64) {
	jti = fmt.Sprint("n", r.Intn(pool))
	switch r.Intn(30) {
	case 0:
		jti = tooLong
	case 1:
		jti = ""
	case 2:
		jti = tooLong[:1024]
	}
	now = near(clock, pick(r, []int64{0, 0, 0, 0, 1, 1, 2, 3, -1, -2, 20}))
	until = near(now, pick(r, []int64{-1, 0, 0, 1, 2, 3, 5, 8, 20, 20, 60}))
	switch r.Intn(60) {
	case 0:
		until = pick(r, []int64{low, -1, 0, 1, high})
	case 1:
		now = low
	}
	return jti, until, now
}

// Drawn runs from New and from images, at both ends of time and between; every code but ErrFull is met.
func TestDrawnRuns(t *testing.T) {
	t.Parallel()
	r := rand.New(rand.NewSource(1))
	met := map[api.Errno]int{}
	for range 600 {
		clock := pick(r, []int64{low, low + 5, -30, 0, 1700000000, high - 40, high - 2, int64(r.Uint64())})
		start := slow{}
		if r.Intn(2) == 0 {
			start = drawnStart(r, clock, r.Intn(6), 30)
		}
		x := newRun(t, start)
		pool := 1 + r.Intn(8)
		for range 20 + r.Intn(100) {
			jti, until, now := drawnTake(r, clock, pool)
			met[x.take(t, jti, until, now)]++
			if x.slow.hasClock {
				clock = x.slow.clock
			}
			if r.Intn(15) == 0 {
				x.reopen(t)
				holdBook(t, x.books[0], x.slow, jti, "n0", "n1", "")
			}
		}
		x.hold(t)
		holdBook(t, x.books[0], x.slow)
	}
	for _, code := range []api.Errno{api.OK, api.ErrLarge, api.ErrBack, api.ErrExpired, api.ErrReplay} {
		if met[code] < 500 {
			t.Errorf("the code %d is met %d times only", int(code), met[code])
		}
	}
}

// drawnStart: a book with a clock and so many names, whose ends are less than span away from it.
func drawnStart(r *rand.Rand, clock int64, count, span int) slow {
	s := slow{clock: clock, hasClock: true}
	for i := range count {
		s.kept = append(s.kept, named{fmt.Sprint("n", i), near(clock, int64(r.Intn(span)))})
	}
	s.kept = s.sorted()
	return s
}

// Drawn runs of books that are full, or nearly so.
func TestDrawnFull(t *testing.T) {
	t.Parallel()
	r := rand.New(rand.NewSource(2))
	full := 0
	for range 12 {
		clock := pick(r, []int64{low, -30, 1700000000, high - 40})
		x := newRun(t, drawnStart(r, clock, 4090+r.Intn(7), pick(r, []int{100, 10000, 1000000})))
		for range 150 {
			jti, until, now := drawnTake(r, clock, 8000)
			if now > near(clock, 3) || r.Intn(4) > 0 {
				now = clock
			}
			if x.take(t, jti, until, now) == api.ErrFull {
				full++
			}
			clock = x.slow.clock
			if r.Intn(60) == 0 {
				x.reopen(t)
			}
		}
		x.hold(t)
		holdBook(t, x.books[0], x.slow)
	}
	if full < 100 {
		t.Errorf("ErrFull is met %d times only", full)
	}
}

// P3: the same run is answered the same each time, however a map is gone through.
func TestSameAgain(t *testing.T) {
	t.Parallel()
	var first []told
	var image []byte
	for turn := range 10 {
		r := rand.New(rand.NewSource(3))
		x := newRun(t, drawnStart(r, 100, 50, 30))
		for range 300 {
			jti, until, now := drawnTake(r, x.slow.clock, 60)
			x.take(t, jti, until, now)
		}
		if turn == 0 {
			first, image = x.log, x.books[0].Image()
		}
		if !slices.Equal(x.log, first) || !bytes.Equal(x.books[0].Image(), image) {
			t.Fatal("P3: the same run is answered another way")
		}
	}
}

// 23.9: Has, Len, Last and Image change nothing, however often they are asked.
func TestAskingChangesNothing(t *testing.T) {
	t.Parallel()
	r := rand.New(rand.NewSource(4))
	asked, quiet := newRun(t, slow{}), newRun(t, slow{})
	for range 400 {
		jti, until, now := drawnTake(r, quiet.slow.clock, 6)
		for range r.Intn(4) {
			asked.books[0].Has(jti)
			asked.books[0].Has(tooLong)
			asked.books[0].Len()
			asked.books[0].Last()
			asked.books[0].Image()
			asked.reopen(t)
		}
		if asked.take(t, jti, until, now) != quiet.take(t, jti, until, now) {
			t.Fatalf("23.9: Take(%s, %d, %d) is answered another way behind Has, Len, Last and Image", quoted(jti), until, now)
		}
	}
	if !bytes.Equal(asked.books[0].Image(), quiet.books[0].Image()) {
		t.Fatal("23.9: Has, Len, Last or Image change the book")
	}
}
