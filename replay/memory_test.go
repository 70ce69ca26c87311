package replay_test

import (
	"bytes"
	"fmt"
	"math/rand"
	"slices"
	"sync"
	"testing"
	"unsafe"

	"signet/api"
	"signet/replay"
)

// marked: the bytes in memory of their own, with marked room ahead of them and behind, and all that memory.
func marked(l []byte) (given, room []byte) {
	room = slices.Concat(bytes.Repeat([]byte{0xa5}, 30), l, bytes.Repeat([]byte{0xa5}, 70))
	return room[30 : 30+len(l)], room
}

func spoil(room []byte) {
	for i := range room {
		room[i] = '!'
	}
}

// P2 of Open: the bytes and the room about them stay as they are, the room is not looked at, and the book does not go with them.
func TestOpenMemory(t *testing.T) {
	t.Parallel()
	for _, s := range someBooks() {
		l := s.image()
		for n := range len(l) + 2 {
			cut := append(bytes.Clone(l), 0)[:min(n, len(l)+1)]
			given, room := marked(cut)
			was := bytes.Clone(room)
			b, code, at := replay.Open(given)
			if !bytes.Equal(room, was) {
				t.Fatalf("P2: Open(%.80x) changes its bytes, or the room about them", cut)
			}
			if _, wantCode, wantAt := replay.Open(slices.Clip(bytes.Clone(cut))); code != wantCode || at != wantAt {
				t.Fatalf("P3: Open(%.80x) hangs on spare room: %d at %d", cut, int(code), at)
			}
			spoil(room)
			if n == len(l) {
				holdBook(t, b, s)
			}
		}
	}
}

// P2 of Image: new memory each time, its spare room too.
func TestImageMemory(t *testing.T) {
	t.Parallel()
	for _, s := range someBooks() {
		for range 20 {
			b := mustOpen(t, s.image())
			first, second := b.Image(), b.Image()
			if &first[0] == &second[0] {
				t.Fatal("P2: two images share memory")
			}
			spoil(first[:cap(first)])
			if !bytes.Equal(second, s.image()) {
				t.Fatal("P2: an image goes with another one")
			}
			spare := bytes.Clone(second[:cap(second)])
			holdBook(t, b, s)
			b.Take("new", high, high)
			if !bytes.Equal(second[:cap(second)], spare) {
				t.Fatal("P2: an image, or its spare room, is written to behind its call")
			}
		}
	}
}

// P2 of Take and Has: a name's bytes stay as they are, and what is kept does not go with them.
func TestNameMemory(t *testing.T) {
	t.Parallel()
	b, s := replay.New(), &slow{}
	for n := range 300 {
		was := fmt.Sprintf("%0*d", n, n)[:n]
		given, room := marked([]byte(was))
		before := bytes.Clone(room)
		jti := unsafe.String(unsafe.SliceData(given), n)
		if b.Has(jti) {
			t.Fatalf("23.3: Has(%s)", quoted(was))
		}
		mustTake(t, api.OK, b, jti, 100, 5)
		mustTake(t, api.ErrReplay, b, jti, 100, 5)
		mustTake(t, api.ErrExpired, b, jti, 4, 5)
		mustTake(t, api.ErrBack, b, jti, 100, 4)
		if !b.Has(jti) || !bytes.Equal(room, before) {
			t.Fatalf("P2: Take(%s) changes the name, or the room about it", quoted(was))
		}
		spoil(room)
		s.take(was, 100, 5)
		holdTake(t, b, s, was, 200, 6)
		s.clock = 5
		b = mustOpen(t, s.image())
	}
	spoiled := replay.New()
	given, room := marked([]byte("name"))
	mustTake(t, api.OK, spoiled, unsafe.String(unsafe.SliceData(given), 4), 7, 5)
	image := spoiled.Image()
	spoil(room)
	mustKeep(t, spoiled, "+name", "-!!!!")
	mustTake(t, api.ErrReplay, spoiled, "name", 9, 7)
	mustTake(t, api.ErrExpired, spoiled, "!!!!", 6, 7)
	if opened := mustOpen(t, image); !opened.Has("name") {
		t.Fatal("P2: the image goes with the name")
	}
	mustTake(t, api.OK, spoiled, "name", 9, 8)
	mustTell(t, spoiled, 1, 8, true)
}

// P3: books know nothing of each other: of New, of one image, and of a book's image.
func TestApart(t *testing.T) {
	t.Parallel()
	a, b := replay.New(), replay.New()
	mustTake(t, api.OK, a, "a", 10, 5)
	mustTell(t, b, 0, 0, false)
	mustTake(t, api.OK, b, "a", 3, 2)
	mustTell(t, a, 1, 5, true)
	image := a.Image()
	old, twin := mustOpen(t, image), mustOpen(t, image)
	mustTake(t, api.OK, a, "b", 30, 20)
	mustTell(t, a, 1, 20, true)
	for _, other := range []*replay.Book{old, twin} {
		mustTell(t, other, 1, 5, true)
		mustKeep(t, other, "+a", "-b")
		mustTake(t, api.ErrReplay, other, "a", 10, 5)
	}
	mustTake(t, api.OK, old, "b", 30, 6)
	mustKeep(t, twin, "+a", "-b")
	mustTake(t, api.OK, twin, "b", 30, 6)
	mustTake(t, api.ErrExpired, twin, "x", 30, 31)
	mustTell(t, twin, 0, 31, true)
	mustTell(t, old, 2, 6, true)
	if !bytes.Equal(image, mustOpen(t, image).Image()) {
		t.Fatal("P2: the image goes with the books")
	}
}

// P3: books that are asked at the same time, of one image too.
func TestAtOnce(t *testing.T) {
	t.Parallel()
	start := slow{clock: 100, hasClock: true, kept: []named{{"n0", 103}, {"n1", 140}}}
	image := start.image()
	var work sync.WaitGroup
	for worker := range 8 {
		work.Go(func() {
			r := rand.New(rand.NewSource(int64(worker)))
			b, code, _ := replay.Open(image)
			if code != api.OK {
				t.Errorf("23.5: %d", int(code))
				return
			}
			s := start
			s.kept = slices.Clone(start.kept)
			for range 2000 {
				jti, until, now := drawnTake(r, s.clock, 10)
				if got, want := b.Take(jti, until, now), s.take(jti, until, now); got != want {
					t.Errorf("P3: worker %d: Take(%s, %d, %d) = %d, want %d", worker, quoted(jti), until, now, int(got), int(want))
					return
				}
			}
			if !bytes.Equal(b.Image(), s.image()) {
				t.Errorf("P3: worker %d: another image", worker)
			}
		})
	}
	work.Wait()
}
