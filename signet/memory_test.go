package signet_test

import (
	"bytes"
	"math/rand"
	"strings"
	"sync"
	"testing"
	"unsafe"

	"signet/signet"
)

// given: a text in memory that the test can change, with marked room about it.
type given struct {
	text string
	room []byte
	was  []byte
}

func lay(text string) given {
	room := []byte(strings.Repeat("<", 30) + text + strings.Repeat(">", 70))
	g := given{room: room, was: bytes.Clone(room)}
	g.text = unsafe.String(&room[30], len(text))
	return g
}

func (g given) hold(t *testing.T) {
	t.Helper()
	if !bytes.Equal(g.room, g.was) {
		t.Fatalf("P2: a call changes what is handed in, or the room about it: %.500q", g.was)
	}
}

func (g given) spoil() {
	for i := range g.room {
		g.room[i] ^= 0x55
	}
}

// P2: a script is not changed, and no answer goes with it.
func TestScriptMemory(t *testing.T) {
	t.Parallel()
	r := rand.New(rand.NewSource(6))
	w := drawnWorld(r)
	for range 40 {
		script := strings.Join(w.script(r, 1+r.Intn(40)), "\n")
		laid := lay(script)
		got, again := signet.Run(laid.text), signet.Run(laid.text)
		was := strings.Clone(got)
		laid.hold(t)
		laid.spoil()
		if got != was || again != was || was != signet.Run(script) {
			t.Fatalf("P2: an answer goes with what was handed in: %.900q", script)
		}
		if got == "" {
			continue
		}
		memory := unsafe.Slice(unsafe.StringData(got), len(got)) // what Run answers is no constant: it may be changed to see who else has it
		for i := range memory {
			memory[i] ^= 0x55
		}
		if again != was || was != signet.Run(script) {
			t.Fatalf("P2: two answers share memory: %.900q", script)
		}
	}
	// One line alone, of each kind.
	for _, script := range []string{"x", "x\n", line("policy", "{}"), line("sum", 256, ""), line("open", ""), line("len"), "[]"} {
		got := signet.Run(script)
		was := strings.Clone(got)
		unsafe.Slice(unsafe.StringData(got), len(got))[0] ^= 0x55
		if again := signet.Run(script); again != was {
			t.Fatalf("P2: two answers share memory: %q, %q", was, again)
		}
	}
}

// P3 and 27.3: calls at the same time know nothing of each other.
func TestAtOnce(t *testing.T) {
	t.Parallel()
	r := rand.New(rand.NewSource(7))
	w := drawnWorld(r)
	var scripts, wanted []string
	for range 24 {
		script := strings.Join(append(behind(opened, line("take", pays(body), 100)), w.script(r, 20)...), "\n")
		scripts, wanted = append(scripts, script), append(wanted, signet.Run(script))
	}
	var work sync.WaitGroup
	for worker := range 8 {
		work.Go(func() {
			r := rand.New(rand.NewSource(int64(worker)))
			for range 30 {
				i := r.Intn(len(scripts))
				if got := signet.Run(scripts[i]); got != wanted[i] {
					t.Errorf("27.3: worker %d: Run(%.900q) = %.900q, want %.900q", worker, scripts[i], got, wanted[i])
				}
			}
		})
	}
	work.Wait()
}
