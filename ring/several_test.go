package ring_test

import (
	"fmt"
	"math/rand"
	"runtime"
	"slices"
	"strings"
	"sync"
	"sync/atomic"
	"testing"

	"signet/api"
	"signet/ring"
)

// 24.5: several goroutines at a time.

// call: one of the five, and its answer.
type call struct {
	told
	versions []int64
}

// ask: the ring's answer.
func (c *call) ask(x *ring.Ring) {
	switch c.call {
	case "Rotate":
		c.code = x.Rotate(c.text, c.now, c.grace)
	case "Verify":
		c.claims, c.version, c.code = x.Verify(c.text, c.policy, c.now)
	case "Drop":
		c.code = x.Drop(c.version)
	default:
		c.versions = x.Versions(c.now)
	}
}

// fits: would the slow ring answer so? It is told the call.
func (c call) fits(x *slow) bool {
	switch c.call {
	case "Rotate":
		return c.code == x.rotate(c.text, c.now, c.grace)
	case "Verify":
		claims, version, code := x.verify(c.text, c.policy, c.now)
		return c.code == code && c.version == version && same(c.claims, claims)
	case "Drop":
		return c.code == x.drop(c.version)
	}
	return slices.Equal(c.versions, x.versions(c.now))
}

// explained: is there an order of all calls, with those of each goroutine in their own, in which the slow ring answers the same?
func explained(x *slow, each [][]call, last []call) bool {
	left := false
	for i, calls := range each {
		if len(calls) == 0 {
			continue
		}
		left = true
		next := x.clone()
		if !calls[0].fits(next) {
			continue
		}
		rest := slices.Clone(each)
		rest[i] = calls[1:]
		if explained(next, rest, last) {
			return true
		}
	}
	if left {
		return false
	}
	next := x.clone()
	for _, c := range last {
		if !c.fits(next) {
			return false
		}
	}
	return true
}

// drawnQuick: a call at one of a few clocks.
func drawnQuick(r *rand.Rand) call {
	now := int64(r.Intn(4))
	switch r.Intn(8) {
	case 0, 1, 2:
		return call{told: told{call: "Rotate", text: set(key(pick(r, kids[:2]), pick(r, letters))), now: now, grace: int64(r.Intn(4))}}
	case 3, 4:
		return call{told: told{call: "Verify", text: token(pick(r, kids[:2]), pick(r, letters)), policy: asked, now: now}}
	case 5:
		return call{told: told{call: "Drop", version: 1 + int64(r.Intn(3))}}
	}
	return call{told: told{call: "Versions", now: now}}
}

// Each run of a few calls at once is answered as if they came in some order; what is asked behind them too.
func TestSomeOrder(t *testing.T) {
	t.Parallel()
	r := rand.New(rand.NewSource(4))
	for range 1500 {
		x := ring.New()
		each := make([][]call, 2+r.Intn(3))
		for i := range each {
			for range 1 + r.Intn(4) {
				each[i] = append(each[i], drawnQuick(r))
			}
		}
		var begin, work sync.WaitGroup
		begin.Add(1)
		for _, calls := range each {
			work.Go(func() {
				begin.Wait()
				for i := range calls {
					calls[i].ask(x)
				}
			})
		}
		begin.Done()
		work.Wait()
		last := []call{{told: told{call: "Versions", now: low}}, {told: told{call: "Versions", now: 5}}, {told: told{call: "Rotate", text: set(), now: 3, grace: 0}}, {told: told{call: "Versions", now: low}}}
		for i := range last {
			last[i].ask(x)
		}
		if !explained(&slow{}, each, last) {
			t.Fatalf("24.5: no order explains %+v, and behind it %+v", each, last)
		}
	}
}

// holdVersions: the newest first, none twice, no more than may be.
func holdVersions(t *testing.T, l []int64) {
	t.Helper()
	if len(l) > 8 {
		t.Errorf("24.1: %d sets are live", len(l))
	}
	for i, version := range l {
		if version < 1 || i > 0 && version >= l[i-1] {
			t.Errorf("24.3: %d", l)
			return
		}
	}
}

// Many calls at once: each Rotate that is OK has a version of its own, each version is dropped once, and Versions never shows a list that is being changed.
func TestManyAtOnce(t *testing.T) {
	t.Parallel()
	x := ring.New()
	var work sync.WaitGroup
	var rotates, drops atomic.Int64
	for worker := range 8 {
		work.Go(func() {
			for i := range int64(3000) {
				switch {
				case worker < 2 && x.Rotate(set(), 0, i%3) == api.OK:
					rotates.Add(1)
				case worker < 4 && x.Drop(max(1, rotates.Load()-i%8)) == api.OK:
					drops.Add(1)
				case worker == 4:
					x.Verify("", asked, 0)
				}
				holdVersions(t, x.Versions(i%3))
			}
		})
	}
	work.Wait()
	if rotates.Load() < 2000 || drops.Load() > rotates.Load() { // with the grace 0 none is refused
		t.Errorf("%d Rotates and %d Drops were OK", rotates.Load(), drops.Load())
	}
	x.Rotate(set(), 9, 0)
	if l := x.Versions(9); !slices.Equal(l, []int64{rotates.Load() + 1}) {
		t.Errorf("24.1: behind %d Rotates that were OK the next one's version is %d", rotates.Load(), l)
	}
}

// Versions shows a ring as it is between two calls, while the newest of eight sets comes and goes.
func TestVersionsBetween(t *testing.T) {
	t.Parallel()
	x := ring.New()
	for range 7 {
		x.Rotate(set(), 0, 9)
	}
	older := x.Versions(0)
	done := make(chan bool)
	go func() {
		defer close(done)
		for version := range int64(20000) {
			x.Rotate(set(), 0, 9)
			x.Drop(version + 8)
		}
	}()
	for newest := int64(8); ; {
		l := x.Versions(0)
		if len(l) == 8 && l[0] >= newest {
			newest, l = l[0], l[1:]
		}
		if !slices.Equal(l, older) {
			t.Fatalf("24.5: behind the version %d: %d", newest, l)
		}
		select {
		case <-done:
			return
		default:
		}
	}
}

// A set is dropped once, however many ask for it at once.
func TestDroppedOnce(t *testing.T) {
	t.Parallel()
	for range 500 {
		x := ring.New()
		for range 8 {
			x.Rotate(set(), 0, 9)
		}
		var begin, work sync.WaitGroup
		var oks [9]atomic.Int64
		begin.Add(1)
		for range 8 {
			work.Go(func() {
				begin.Wait()
				for version := range oks {
					if x.Drop(int64(version)) == api.OK {
						oks[version].Add(1)
					}
				}
			})
		}
		begin.Done()
		work.Wait()
		for version := 1; version < 9; version++ {
			if oks[version].Load() != 1 {
				t.Fatalf("24.5: Drop(%d) is OK %d times", version, oks[version].Load())
			}
		}
	}
}

// slowRing: one whose oldest set has the kid a, beneath seven that take long to read; at 1000 all of them but the newest end.
func slowRing(t *testing.T) *ring.Ring {
	t.Helper()
	var others []string
	for i := range 2400 {
		others = append(others, key(strings.Repeat("k", 20)+fmt.Sprint(i), "x"))
	}
	x := ring.New()
	for _, keys := range []string{set(key("a", "x")), set(others...), set(others...), set(others...), set(others...), set(others...), set(others...), set(others...)} {
		if code := x.Rotate(keys, 0, 1000); code != api.OK {
			t.Fatal(int(code))
		}
	}
	return x
}

// underWay: a Verify of a token under the kid a at the clock 5, whose moment has come, since the clock has moved; closed when it is answered.
func underWay(t *testing.T, x *ring.Ring) chan bool {
	done := make(chan bool)
	go func() {
		defer close(done)
		if c, version, code := x.Verify(token("a", "x"), asked, 5); code != api.OK || version != 1 || c.Sub != "me" {
			t.Errorf("24.5: a token's Verify is answered %d, %d by what came behind it", version, int(code))
		}
	}()
	moved := func() bool { return x.Rotate("", 4, -1) == api.ErrBack }
	for !moved() {
		select {
		case <-done:
			if !moved() {
				t.Fatal("24.2: Verify has not moved the clock")
			}
		default:
			runtime.Gosched()
		}
	}
	return done
}

// What counts is the sets and the clock at one moment: what comes while a token is verified changes nothing of its answer.
func TestOneMoment(t *testing.T) {
	t.Parallel()
	for what, change := range map[string]func(x *ring.Ring){
		"the end by Verify": func(x *ring.Ring) { x.Verify("", asked, 1000) },
		"the end by Rotate": func(x *ring.Ring) { x.Rotate(set(key("a", "y")), 1000, 0) },
		"a Drop":            func(x *ring.Ring) { x.Drop(1) },
		"other Drops":       func(x *ring.Ring) { x.Drop(5); x.Drop(8); x.Drop(2) },
	} {
		x := slowRing(t)
		done := underWay(t, x)
		change(x)
		<-done
		if t.Failed() {
			t.Fatalf("24.5: behind %s", what)
		}
	}
}

// A token is verified outside of the lock: others are answered all the while.
func TestNobodyWaits(t *testing.T) {
	t.Parallel()
	x := slowRing(t)
	done := underWay(t, x)
	for answered := 0; ; answered++ {
		select {
		case <-done:
			if answered < 5000 {
				t.Errorf("24.5: only %d calls are answered while a token is verified", answered)
			}
			return
		default:
			x.Versions(0)
		}
	}
}
