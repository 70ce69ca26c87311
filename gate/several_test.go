package gate_test

import (
	"math/rand"
	"runtime"
	"slices"
	"strconv"
	"strings"
	"sync"
	"sync/atomic"
	"testing"

	"signet/api"
	"signet/gate"
)

// 26.7: several goroutines at a time.

// call: one of the four, and its answer.
type call struct {
	name     string
	tokens   []string // of a batch, or the one of Take
	keys     string
	now      int64
	grace    int64
	verdicts []api.Verdict // of a batch, or the one of Take
	code     api.Errno     // of Rotate
	length   int
}

// ask: the gate's answer.
func (c *call) ask(g *gate.Gate) {
	switch c.name {
	case "Rotate":
		c.code = g.Rotate(c.keys, c.now, c.grace)
	case "Take":
		claims, code := g.Take(c.tokens[0], c.now)
		c.verdicts = []api.Verdict{{Code: code, Claims: claims}}
	case "Batch":
		c.verdicts = g.Batch(c.tokens, c.now)
	default:
		c.length = g.Len()
	}
}

func sameVerdicts(a, b api.Verdict) bool { return a.Code == b.Code && same(a.Claims, b.Claims) }

// fits: would the slow gate answer so? It is told the call.
func (c call) fits(x *slow) bool {
	switch c.name {
	case "Rotate":
		return c.code == x.rotate(c.keys, c.now, c.grace)
	case "Take", "Batch":
		return slices.EqualFunc(c.verdicts, x.batch(c.tokens, c.now), sameVerdicts)
	}
	return c.length == x.length
}

// explained: is there an order of all calls, with those of each goroutine in their own, in which the slow gate answers the same?
func explained(x *slow, each [][]call, last []call) bool {
	left := false
	for i, calls := range each {
		if len(calls) == 0 {
			continue
		}
		left = true
		next := x.clone()
		if !calls[0].fits(next) {
			continue
		}
		rest := slices.Clone(each)
		rest[i] = calls[1:]
		if explained(next, rest, last) {
			return true
		}
	}
	if left {
		return false
	}
	next := x.clone()
	for _, c := range last {
		if !c.fits(next) {
			return false
		}
	}
	return true
}

// drawnQuick: a call at one of a few clocks, of one of a few tokens.
func drawnQuick(r *rand.Rand, pool []string) call {
	now := int64(r.Intn(4))
	switch r.Intn(8) {
	case 0:
		return call{name: "Rotate", keys: set(key("k", pick(r, []string{"x", "x", "y"}))), now: now, grace: int64(r.Intn(3))}
	case 1, 2, 3:
		return call{name: "Take", tokens: []string{pick(r, pool)}, now: now}
	case 4, 5:
		c := call{name: "Batch", now: now}
		for range r.Intn(4) {
			c.tokens = append(c.tokens, pick(r, pool))
		}
		return c
	}
	return call{name: "Len"}
}

// Each run of a few calls at once is answered as if they came in some order; what is asked behind them too.
func TestSomeOrder(t *testing.T) {
	t.Parallel()
	r := rand.New(rand.NewSource(6))
	var pool []string
	for _, jti := range []string{"a", "b"} {
		for exp := range int64(4) {
			pool = append(pool, ticket(by(), jti, exp+2))
		}
	}
	pool = append(pool, "x", ticket(by(), "a", 9, `,"bad":0`), signed(headOf("k"), claim(by(), "a", 9), "y"))
	for range 700 {
		start := openWith(t, 1, "not has bad")
		start.mustRotate(t, api.OK, usual, 0, 0)
		each := make([][]call, 2+r.Intn(2))
		for i := range each {
			for range 1 + r.Intn(4) {
				each[i] = append(each[i], drawnQuick(r, pool))
			}
		}
		var begin, work sync.WaitGroup
		begin.Add(1)
		for _, calls := range each {
			work.Go(func() {
				begin.Wait()
				for i := range calls {
					calls[i].ask(start.gate)
				}
			})
		}
		begin.Done()
		work.Wait()
		last := []call{{name: "Len"}, {name: "Batch", tokens: pool, now: 3}, {name: "Len"}, {name: "Rotate", keys: set(), now: 2}, {name: "Take", tokens: pool[:1], now: 3}}
		for i := range last {
			last[i].ask(start.gate)
		}
		if !explained(start.slow, each, last) {
			t.Fatalf("26.7: no order explains %s, and behind it %s", short(each), short(last))
		}
	}
}

// Of many who come with the same tokens at once, by Take and by Batch, each token is let by to one.
func TestOnce(t *testing.T) {
	t.Parallel()
	for range 5 {
		x := open(t, 0)
		tokens := tickets("a", 200, 900)
		oks := make([]atomic.Int64, len(tokens))
		count := func(i int, code api.Errno) {
			switch code {
			case api.OK:
				oks[i].Add(1)
			case api.ErrReplay:
			default:
				t.Errorf("26.7: token %d: %d", i, int(code))
			}
		}
		var work sync.WaitGroup
		for worker := range 8 {
			work.Go(func() {
				if worker%2 == 0 {
					for from := 0; from < len(tokens); from += 50 {
						for i, v := range x.gate.Batch(tokens[from:from+50], 5) {
							count(from+i, v.Code)
						}
					}
					return
				}
				for i, token := range tokens {
					_, code := x.gate.Take(token, 5)
					count(i, code)
				}
			})
		}
		work.Wait()
		for i := range oks {
			if n := oks[i].Load(); n != 1 {
				t.Errorf("26.7: token %d is let by %d times", i, n)
			}
		}
		x.mustLenOf(t, len(tokens))
	}
}

// mustLenOf: of a gate that the slow one has not gone with.
func (x *pair) mustLenOf(t *testing.T, want int) {
	t.Helper()
	if n := x.gate.Len(); n != want {
		t.Errorf("26.5: Len = %d, want %d", n, want)
	}
}

// slowSet: one that takes long to read.
func slowSet() string {
	keys := []string{key("k", "x")}
	for i := range 2400 {
		keys = append(keys, key(strings.Repeat("n", 20)+strconv.Itoa(i), "x"))
	}
	return set(keys...)
}

// awaitClock: until a call that is under way has moved the clock there.
func (x *pair) awaitClock(t *testing.T, now int64, answered chan bool) {
	t.Helper()
	moved := func() bool { return x.gate.Rotate("", now-1, -1) == api.ErrBack }
	for !moved() {
		select {
		case <-answered:
			if !moved() {
				t.Fatalf("26.3: the clock has not moved to %d", now)
			}
		default:
			runtime.Gosched()
		}
	}
}

// A Take is one call: once its clock is told, so is its name.
func TestTakeIsOne(t *testing.T) {
	t.Parallel()
	x := mustNew(t, asked, "")
	x.mustRotate(t, api.OK, slowSet(), 0, 0)
	for i := range int64(20) {
		now, taken := 10*i+5, make(chan bool)
		token := ticket(by(), strconv.FormatInt(i, 10), 900)
		go func() {
			defer close(taken)
			if _, code := x.gate.Take(token, now); code != api.OK {
				t.Errorf("26.7: a new token is answered %d", int(code))
			}
		}()
		x.awaitClock(t, now, taken)
		x.gate.Take("", now+1)
		x.mustLenOf(t, int(i)+1)
		<-taken
		x.mustLenOf(t, int(i)+1)
	}
}

// A batch is one call: nobody sees a part of it.
func TestBatchIsOne(t *testing.T) {
	t.Parallel()
	x := open(t, 0)
	tokens := tickets("a", 3000, 900)
	done := make(chan bool)
	go func() {
		defer close(done)
		for from := 0; from < len(tokens); from += 100 {
			x.gate.Batch(tokens[from:from+100], 5)
		}
	}()
	for {
		if n := x.gate.Len(); n%100 != 0 {
			t.Fatalf("26.7: %d names, while batches of 100 tokens come", n)
		}
		select {
		case <-done:
			x.mustLenOf(t, len(tokens))
			return
		default:
		}
	}
}

// A batch is one call: a Rotate that moves the clock on comes ahead of all its tokens or behind them.
func TestRotateBetween(t *testing.T) {
	t.Parallel()
	x := open(t, 0)
	tokens := tickets("a", 130, 9000)
	met := map[api.Errno]int{}
	for now := int64(0); now < 600; now += 2 {
		rotated := make(chan bool)
		go func() {
			defer close(rotated)
			for range now % 50 * 4 {
				x.gate.Len()
			}
			x.gate.Rotate(usual, now+1, 0)
		}()
		l := x.gate.Batch(tokens, now)
		<-rotated
		for i, v := range l {
			if (v.Code == api.ErrBack) != (l[0].Code == api.ErrBack) {
				t.Fatalf("26.7: of one batch token 0 is answered %d, token %d %d", int(l[0].Code), i, int(v.Code))
			}
		}
		met[l[0].Code]++
	}
	if met[api.ErrReplay] == 0 {
		t.Errorf("%v", met)
	}
}

// Clocks that run on at once: a token whose clock is not back is judged by its own clock, ring and book together.
func TestRunningClocks(t *testing.T) {
	t.Parallel()
	x := open(t, 0)
	var now atomic.Int64
	var work sync.WaitGroup
	var oks atomic.Int64
	for worker := range 8 {
		work.Go(func() {
			for i := range 200 {
				at := now.Add(1)
				switch _, code := x.gate.Take(ticket(by(strconv.Itoa(worker)), strconv.Itoa(i), high), at); code {
				case api.OK:
					oks.Add(1)
				case api.ErrBack:
				default:
					t.Errorf("26.3: a new token at %d: %d", at, int(code))
				}
			}
		})
	}
	work.Wait()
	if n := oks.Load(); n < 1 {
		t.Errorf("26.3: no token is let by")
	}
	x.mustLenOf(t, int(oks.Load()))
}
