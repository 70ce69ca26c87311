package replay_test

import (
	"bytes"
	"encoding/binary"
	"fmt"
	"hash/fnv"
	"io"
	"math"
	"slices"
	"testing"

	"signet/api"
	"signet/replay"
)

// The chapter's words, written out over a list, and over Go's own library.

const low, high = math.MinInt64, math.MaxInt64

type named struct {
	jti string
	end int64
}

// slow: a book as a list of names in the order in which they came.
type slow struct {
	clock    int64
	hasClock bool
	kept     []named
}

func (s *slow) has(jti string) bool {
	return slices.ContainsFunc(s.kept, func(n named) bool { return n.jti == jti })
}

func (s *slow) take(jti string, until, now int64) api.Errno {
	if len(jti) > 1024 {
		return api.ErrLarge
	}
	if s.hasClock && now < s.clock {
		return api.ErrBack
	}
	s.clock, s.hasClock = now, true
	s.kept = slices.DeleteFunc(s.kept, func(n named) bool { return n.end < now })
	if until < now {
		return api.ErrExpired
	}
	if s.has(jti) {
		return api.ErrReplay
	}
	if len(s.kept) == 4096 {
		return api.ErrFull
	}
	s.kept = append(s.kept, named{jti, until})
	return api.OK
}

func (s *slow) sorted() []named {
	l := slices.Clone(s.kept)
	slices.SortFunc(l, func(a, b named) int { return bytes.Compare([]byte(a.jti), []byte(b.jti)) })
	return l
}

// body: an image without its sum.
func (s *slow) body() []byte {
	l := []byte{82, 1, 0}
	if s.hasClock {
		l[2] = 1
	}
	l = binary.BigEndian.AppendUint64(l, uint64(s.clock))
	l = binary.BigEndian.AppendUint32(l, uint32(len(s.kept)))
	for _, n := range s.sorted() {
		l = binary.BigEndian.AppendUint16(l, uint16(len(n.jti)))
		l = append(l, n.jti...)
		l = binary.BigEndian.AppendUint64(l, uint64(n.end))
	}
	return l
}

func (s *slow) image() []byte { return sealed(s.body()) }

// sealed: new memory of the bytes, and their sum.
func sealed(l []byte) []byte {
	h := fnv.New64a()
	h.Write(l)
	return h.Sum(bytes.Clone(l))
}

// scan goes through an image by the library's readers; at is where the thing begins that was read last.
type scan struct {
	image []byte
	rest  *bytes.Reader
	at    int
}

func (s *scan) begins() { s.at = len(s.image) - s.rest.Len() }

// number reads into one of the library's kinds; false, if the bytes end in it.
func (s *scan) number(into any) bool {
	s.begins()
	return binary.Read(s.rest, binary.BigEndian, into) == nil
}

// wantOpen: the book that the chapter says, or nil and the place.
func wantOpen(image []byte) (*slow, int) {
	s := &scan{image: image, rest: bytes.NewReader(image)}
	b := &slow{}
	var first, second, third uint8
	var count uint32
	var sum uint64
	switch {
	case !s.number(&first) || first != 82:
		return nil, s.at
	case !s.number(&second) || second != 1:
		return nil, s.at
	case !s.number(&third) || third > 1:
		return nil, s.at
	case !s.number(&b.clock) || third == 0 && b.clock != 0:
		return nil, s.at
	case !s.number(&count) || count > 4096 || third == 0 && count != 0:
		return nil, s.at
	}
	b.hasClock = third == 1
	for range count {
		if !b.wantName(s) {
			return nil, s.at
		}
	}
	if !s.number(&sum) || sum != binary.BigEndian.Uint64(sealed(image[:s.at])[s.at:]) {
		return nil, s.at
	}
	s.begins()
	if s.rest.Len() > 0 {
		return nil, s.at
	}
	return b, 0
}

func (b *slow) wantName(s *scan) bool {
	var length uint16
	if !s.number(&length) || length > 1024 {
		return false
	}
	s.begins()
	name := make([]byte, length)
	if _, err := io.ReadFull(s.rest, name); err != nil {
		return false
	}
	if n := len(b.kept); n > 0 && bytes.Compare(name, []byte(b.kept[n-1].jti)) <= 0 {
		return false
	}
	var end int64
	if !s.number(&end) || end < b.clock {
		return false
	}
	b.kept = append(b.kept, named{string(name), end})
	return true
}

// Asking, with every answer held against the slow book's.

// quoted: the beginning of a name, and how many bytes it has.
func quoted(jti string) string { return fmt.Sprintf("%.40q (%d bytes)", jti, len(jti)) }

func holdTake(t *testing.T, b *replay.Book, s *slow, jti string, until, now int64) api.Errno {
	t.Helper()
	code := b.Take(jti, until, now)
	if want := s.take(jti, until, now); code != want {
		t.Fatalf("23.2: Take(%s, %d, %d) = %d, want %d", quoted(jti), until, now, int(code), int(want))
	}
	if got := b.Has(jti); got != s.has(jti) {
		t.Fatalf("23.3: behind Take(%s, %d, %d) = %d Has is %v", quoted(jti), until, now, int(code), got)
	}
	holdNumbers(t, b, s)
	return code
}

func holdNumbers(t *testing.T, b *replay.Book, s *slow) {
	t.Helper()
	clock, has := b.Last()
	if b.Len() != len(s.kept) || clock != s.clock || has != s.hasClock {
		t.Fatalf("23.3: %d names, the clock %d, %v; want %d, %d, %v", b.Len(), clock, has, len(s.kept), s.clock, s.hasClock)
	}
}

// holdBook: all that a book tells of itself; these names are no more kept than the slow one says.
func holdBook(t *testing.T, b *replay.Book, s *slow, others ...string) {
	t.Helper()
	holdNumbers(t, b, s)
	if got, want := b.Image(), s.image(); !bytes.Equal(got, want) {
		t.Fatalf("23.4: the image is %.80x (%d bytes), want %.80x (%d bytes)", got, len(got), want, len(want))
	}
	for _, n := range s.kept {
		if !b.Has(n.jti) {
			t.Fatalf("23.9: %s is not kept", quoted(n.jti))
		}
	}
	for _, jti := range others {
		if b.Has(jti) != s.has(jti) {
			t.Fatalf("23.9: Has(%s) = %v", quoted(jti), b.Has(jti))
		}
	}
	holdNumbers(t, b, s)
}

// holdOpen: Open's answer to any bytes; the book and the slow one, if there is one.
func holdOpen(t *testing.T, image []byte) (*replay.Book, *slow) {
	t.Helper()
	b, code, at := replay.Open(image)
	s, wantAt := wantOpen(image)
	if s == nil {
		if b != nil || code != api.ErrImage || at != wantAt {
			t.Fatalf("23.5: Open(%.80x) of %d bytes: %d at %d, want %d at %d", image, len(image), int(code), at, int(api.ErrImage), wantAt)
		}
		return nil, nil
	}
	if b == nil || code != api.OK || at != 0 {
		t.Fatalf("23.5: Open(%.80x) of %d bytes: %d at %d, want OK", image, len(image), int(code), at)
	}
	if !bytes.Equal(b.Image(), image) {
		t.Fatalf("23.6: Open(%.80x) has the image %.80x", image, b.Image())
	}
	holdBook(t, b, s)
	return b, s
}

func mustTake(t *testing.T, want api.Errno, b *replay.Book, jti string, until, now int64) {
	t.Helper()
	if code := b.Take(jti, until, now); code != want {
		t.Fatalf("23.2: Take(%s, %d, %d) = %d, want %d", quoted(jti), until, now, int(code), int(want))
	}
}

func mustTell(t *testing.T, b *replay.Book, count int, clock int64, has bool) {
	t.Helper()
	if c, ok := b.Last(); b.Len() != count || c != clock || ok != has {
		t.Fatalf("23.3: %d names, the clock %d, %v; want %d, %d, %v", b.Len(), c, ok, count, clock, has)
	}
}

// mustKeep: of these names just those that are marked by a leading + are kept.
func mustKeep(t *testing.T, b *replay.Book, names ...string) {
	t.Helper()
	for _, n := range names {
		if b.Has(n[1:]) != (n[0] == '+') {
			t.Fatalf("23.3: Has(%s) = %v", quoted(n[1:]), b.Has(n[1:]))
		}
	}
}

func mustOpen(t *testing.T, image []byte) *replay.Book {
	t.Helper()
	b, code, at := replay.Open(image)
	if b == nil || code != api.OK || at != 0 {
		t.Fatalf("23.5: Open(%.80x) of %d bytes: %d at %d, want OK", image, len(image), int(code), at)
	}
	holdOpen(t, image)
	return b
}

func mustRefuse(t *testing.T, place int, image []byte) {
	t.Helper()
	if b, code, at := replay.Open(image); b != nil || code != api.ErrImage || at != place {
		t.Fatalf("23.5: Open(%.80x) of %d bytes: %d at %d, want %d at %d", image, len(image), int(code), at, int(api.ErrImage), place)
	}
	holdOpen(t, image)
}
