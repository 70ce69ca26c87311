package replay_test

import (
	"bytes"
	"encoding/binary"
	"encoding/hex"
	"fmt"
	"slices"
	"strings"
	"testing"

	"signet/api"
	"signet/replay"
)

// unhex: the bytes of a text with blanks between the things.
func unhex(t *testing.T, text string) []byte {
	t.Helper()
	l, err := hex.DecodeString(strings.ReplaceAll(text, " ", ""))
	if err != nil {
		t.Fatal(err)
	}
	return l
}

// 23.4: images whose bytes, sums too, were reckoned apart from any of this.
func TestImages(t *testing.T) {
	t.Parallel()
	image := func(want string, b *replay.Book) {
		t.Helper()
		l := unhex(t, want)
		if got := b.Image(); !bytes.Equal(got, l) {
			t.Errorf("23.4: %x, want %x", got, l)
		}
		mustOpen(t, l)
	}
	b := replay.New()
	image("52 01 00 0000000000000000 00000000 08abbe8e33f7c914", b)
	mustTake(t, api.ErrExpired, b, "a", -1, 0)
	image("52 01 01 0000000000000000 00000000 989d190880621dd7", b)
	b = replay.New()
	mustTake(t, api.OK, b, "a", 10, 5)
	mustTake(t, api.OK, b, "b", 5, 5)
	mustTake(t, api.ErrExpired, b, "c", 5, 6)
	image("52 01 01 0000000000000006 00000001 0001 61 000000000000000a 3490d473468cc7de", b)
	b = replay.New()
	mustTake(t, api.OK, b, "a\x00", 0, -2)
	mustTake(t, api.OK, b, "\x80", 7, -2)
	mustTake(t, api.OK, b, "", -1, -2)
	mustTake(t, api.OK, b, "a", -2, -2)
	mustTake(t, api.OK, b, "\x00", high, -2)
	image("52 01 01 fffffffffffffffe 00000005 0000 ffffffffffffffff 0001 00 7fffffffffffffff 0001 61 fffffffffffffffe 0002 6100 0000000000000000 0001 80 0000000000000007 516f03820285eac6", b)
}

// 23.4: a book's image hangs on what it keeps and its clock, not on the order of coming, nor on what has gone or was refused.
func TestOneImage(t *testing.T) {
	t.Parallel()
	names := []string{"", "\x00", "a", "a\x00", "aa", "b", "\x7f", "\x80", "é", "\xff"}
	s := &slow{clock: 5, hasClock: true}
	for i, jti := range names {
		s.kept = append(s.kept, named{jti, int64(10 + i)})
	}
	for turn := range 40 {
		b := replay.New()
		mustTake(t, api.OK, b, fmt.Sprint("gone ", turn), 4, 3)
		mustTake(t, api.OK, b, "b", 4, 4)
		for i := range names {
			k := (i*[]int{1, 3, 7, 9}[turn%4] + turn/4) % len(names)
			mustTake(t, api.OK, b, names[k], int64(10+k), 5)
			mustTake(t, api.ErrReplay, b, names[k], 99, 5)
			mustTake(t, api.ErrExpired, b, "refused", 4, 5)
		}
		holdBook(t, b, s, "gone", "refused")
		holdOpen(t, b.Image())
	}
}

// The greatest image that there is, and the same with one name, or one byte of a name, too many.
func TestGreatestImage(t *testing.T) {
	t.Parallel()
	s := &slow{clock: low, hasClock: true}
	for i := range 4096 {
		s.kept = append(s.kept, named{fmt.Sprintf("%01024d", i), high - int64(i)})
	}
	l := s.image()
	b := mustOpen(t, l)
	mustTell(t, b, 4096, low, true)
	mustTake(t, api.ErrReplay, b, fmt.Sprintf("%01024d", 4095), high, high-4095)
	mustTake(t, api.ErrFull, b, "x", high, high-4095)
	mustTake(t, api.OK, b, "x", high, high-4094)
	mustRefuse(t, len(l), append(bytes.Clone(l), 0))
	mustRefuse(t, len(l)-8, l[:len(l)-1])
	s.kept[4095].jti += "x"
	mustRefuse(t, 15+4095*1034, s.image())
	s.kept[4095].jti = "1"
	s.kept = append(s.kept, named{"2", high})
	mustRefuse(t, 11, s.image())
}

// 23.5: each thing that cannot be, its sum right or not.
func TestRefused(t *testing.T) {
	t.Parallel()
	const head = "52 01 01 0000000000000005 "
	const a, b = "0001 61 0000000000000009 ", "0001 62 0000000000000005 "
	for _, c := range []struct {
		at   int
		body string
	}{
		{0, "51 01 00 0000000000000000 00000000"}, {0, "00 02"}, {0, "ad 01 01 0000000000000005 00000000"},
		{1, "52 00 00 0000000000000000 00000000"}, {1, "52 02 02 0000000000000000 00000000"}, {1, "52 52"},
		{2, "52 01 02 0000000000000000 00000000"}, {2, "52 01 ff 0000000000000001 00000001"}, {2, "52 01 80"},
		{3, "52 01 00 0000000000000001 00000000"}, {3, "52 01 00 8000000000000000 00000000"}, {3, "52 01 00 ffffffffffffffff 00000001"}, {3, "52 01 00 0000000001000000 00000000"},
		{11, "52 01 00 0000000000000000 00000001 " + a}, {11, "52 01 00 0000000000000000 01000000"}, {11, "52 01 00 0000000000000000 00001000"},
		{11, head + "00001001"}, {11, head + "80000000"}, {11, head + "ffffffff"}, {11, head + "01000001" + a}, {11, head + "00010001" + a},
		{15, head + "00000001 0401 61"}, {15, head + "00000001 ffff"}, {15, head + "00000001 8001 61 0000000000000009"}, {15, head + "00000001 0500"},
		{18, head + "00000001 0001 61 0000000000000004"}, {18, head + "00000001 0001 61 ffffffffffffffff"}, {18, head + "00000001 0001 61 8000000000000000"}, {18, head + "00000002 0001 61 0000000000000000" + a},
		{17, head + "00000001 0000 0000000000000004"},
		{26, head + "00000002" + a + "0401"},
		{28, head + "00000002" + b + a}, {28, head + "00000002" + a + a}, {28, head + "00000002" + a + "0001 61 0000000000000004"}, {28, head + "00000002" + a + "0001 00 0000000000000009"},
		{28, head + "00000002" + a + "0000 0000000000000009"}, {27, head + "00000002 0000 0000000000000009 0000 0000000000000009"},
		{29, head + "00000002 0002 6161 0000000000000009 0001 61 0000000000000009"},
		{28, head + "00000002 0001 ff 0000000000000009 0001 7f 0000000000000009"}, {28, head + "00000002 0001 80 0000000000000009 0001 7f 0000000000000009"},
		{29, head + "00000002" + a + "0001 62 0000000000000004"}, {39, head + "00000003" + a + b + "0001 61 0000000000000009"},
		{18, "52 01 01 0000000000000000 00000001 0001 61 ffffffffffffffff"}, {18, "52 01 01 7fffffffffffffff 00000001 0001 61 7ffffffffffffffe"}, {18, "52 01 01 ffffffffffffffff 00000001 0001 61 fffffffffffffffe"},
	} {
		l := unhex(t, c.body)
		mustRefuse(t, c.at, l)
		mustRefuse(t, c.at, sealed(l))
		mustRefuse(t, c.at, append(sealed(l), 0))
		mustRefuse(t, c.at, append(l, 0, 0, 0, 0, 0, 0, 0, 0, 0, 0))
	}
}

// 23.5: the bytes end in each of the things, or at its beginning.
func TestEndsIn(t *testing.T) {
	t.Parallel()
	mustRefuse(t, 0, nil)
	mustRefuse(t, 0, []byte{})
	// The things' beginnings; a name without a byte is whole, so that its end's place is told.
	l := sealed(unhex(t, "52 01 01 0000000000000005 00000003 0000 0000000000000005 0001 61 0000000000000009 0003 616263 7fffffffffffffff"))
	begins := []int{0, 1, 2, 3, 11, 15, 17, 25, 27, 28, 36, 38, 41, 49}
	for n := range l {
		at := 0
		for _, begin := range begins {
			if begin <= n {
				at = begin
			}
		}
		mustRefuse(t, at, l[:n])
		mustRefuse(t, at, l[:n:n])
	}
	mustOpen(t, l)
	mustOpen(t, l[:len(l):len(l)])
	mustOpen(t, append(bytes.Clone(l), 0)[:len(l)])
	for n := 15; n < 23; n++ {
		mustRefuse(t, 15, replay.New().Image()[:n])
	}
	// One name fewer than their number says: the sum is read as a name of 0x01f6 bytes.
	mustRefuse(t, 28, sealed(unhex(t, "52 01 01 0000000000000005 00000002 0001 61 0000000000000009")))
}

// 23.6: nothing that is longer, whatever stands behind.
func TestBehind(t *testing.T) {
	t.Parallel()
	for _, text := range []string{"52 01 00 0000000000000000 00000000", "52 01 01 0000000000000005 00000001 0001 61 0000000000000005"} {
		l := sealed(unhex(t, text))
		mustOpen(t, l)
		for c := range 256 {
			mustRefuse(t, len(l), append(bytes.Clone(l), byte(c)))
		}
		mustRefuse(t, len(l), slices.Concat(l, l))
		mustRefuse(t, len(l), slices.Concat(l, make([]byte, 100000)))
		mustRefuse(t, len(l), sealed(l))
	}
}

// 23.5: the sum in each of its bytes another one, and other sums that are near.
func TestSum(t *testing.T) {
	t.Parallel()
	body := unhex(t, "52 01 01 0000000000000005 00000001 0001 61 0000000000000005")
	l := sealed(body)
	sum := binary.BigEndian.Uint64(l[len(body):])
	other := func(sum uint64) {
		t.Helper()
		mustRefuse(t, len(body), binary.BigEndian.AppendUint64(bytes.Clone(body), sum))
	}
	for bit := range 64 {
		other(sum ^ 1<<bit)
		other(sum + 1<<bit)
	}
	other(0)
	other(^sum)
	other(binary.LittleEndian.Uint64(l[len(body):]))
	// FNV-1, which multiplies ahead; and of 32 bits.
	first, narrow := uint64(14695981039346656037), uint32(2166136261)
	for _, c := range body {
		first = first*1099511628211 ^ uint64(c)
		narrow = (narrow ^ uint32(c)) * 16777619
	}
	other(first)
	other(uint64(narrow))
}

// 23.5, 23.6: a name that was looked for so that the sum is 0, which bytes that are not there must not be taken for.
func TestSumNought(t *testing.T) {
	t.Parallel()
	body := unhex(t, "52 01 01 0000000000000005 00000001 000e 3c03034cfc0524e252f40d2d2306 0000000000000009")
	l := append(bytes.Clone(body), make([]byte, 8)...)
	mustOpen(t, l)
	mustRefuse(t, len(l), append(bytes.Clone(l), 0))
	for n := len(body); n < len(l); n++ {
		mustRefuse(t, len(body), l[:n])
	}
}

// someBooks: without a clock, without a name, and with names.
func someBooks() []*slow {
	return []*slow{
		{},
		{clock: -3, hasClock: true},
		{clock: 5, hasClock: true, kept: []named{{"a", 5}}},
		{clock: -1, hasClock: true, kept: []named{{"", 0}, {"a", high}, {"ab", -1}, {"\xff\x00", 7}}},
		{clock: 256, hasClock: true, kept: []named{{strings.Repeat("b", 255), 256}, {strings.Repeat("b", 256), 300}}},
	}
}

// 23.6: with one byte that is another one no image is taken; with the sum made right for it, what the chapter says.
func TestEveryByte(t *testing.T) {
	t.Parallel()
	for _, s := range someBooks() {
		l := s.image()
		mustOpen(t, l)
		taken := 0
		for i := range l {
			for by := 1; by < 256; by++ {
				turned := bytes.Clone(l)
				turned[i] += byte(by)
				if b, code, _ := replay.Open(turned); b != nil || code != api.ErrImage {
					t.Fatalf("23.6: Open(%.80x) with another byte at %d: %d", l, i, int(code))
				}
				holdOpen(t, turned)
				if b, _ := holdOpen(t, sealed(turned[:len(l)-8])); b != nil {
					taken++
				}
			}
		}
		if s.hasClock && taken < 255 {
			t.Errorf("23.5: only %d images were taken", taken)
		}
	}
}

// 23.6: a byte less, one more, two in the other order, two that are others; with its own sum, and with a right one.
func TestNearImages(t *testing.T) {
	t.Parallel()
	for _, s := range someBooks() {
		l := s.body()
		both := func(body []byte) {
			t.Helper()
			holdOpen(t, sealed(body))
			if !bytes.Equal(body, l) {
				if b, _ := holdOpen(t, slices.Concat(body, s.image()[len(l):])); b != nil {
					t.Fatalf("23.6: another sum is taken: %.80x", body)
				}
			}
		}
		for i := range l {
			both(slices.Delete(bytes.Clone(l), i, i+1))
			for _, c := range []byte{0, 1, l[i], 255} {
				both(slices.Insert(bytes.Clone(l), i, c))
			}
			for j := max(0, i-40); j < i; j++ {
				turned := bytes.Clone(l)
				turned[i], turned[j] = turned[j], turned[i]
				both(turned)
				turned[i], turned[j] = l[i]-1, l[j]+1
				both(turned)
			}
		}
	}
}
