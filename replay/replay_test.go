package replay_test

import (
	"fmt"
	"strings"
	"testing"

	"signet/api"
	"signet/replay"
)

var tooLong = strings.Repeat("x", 1025)

func TestNew(t *testing.T) {
	t.Parallel()
	b := replay.New()
	mustTell(t, b, 0, 0, false)
	mustKeep(t, b, "-", "-a", "-"+tooLong)
	holdBook(t, b, &slow{})
}

// The chapter's table, up to the images.
func TestExamples(t *testing.T) {
	t.Parallel()
	b := replay.New()
	mustTake(t, api.OK, b, "a", 10, 5)
	mustTake(t, api.ErrReplay, b, "a", 10, 5)
	mustTake(t, api.OK, b, "b", 5, 5)
	mustTell(t, b, 2, 5, true)
	mustTake(t, api.ErrExpired, b, "c", 5, 6)
	mustTell(t, b, 1, 6, true)
	mustKeep(t, b, "+a", "-b", "-c")
	mustTake(t, api.ErrBack, b, "c", 9, 5)
	mustTell(t, b, 1, 6, true)
	mustTake(t, api.ErrReplay, b, "a", 12, 10)
	mustTake(t, api.OK, b, "a", 12, 11)
	mustTake(t, api.ErrLarge, b, tooLong, 99, 0)
	mustTell(t, b, 1, 11, true)
}

// Two reasons at once: the one ahead in the chapter's order is told. The book's clock is 50, and it keeps "a" up to 100.
func TestOrderOfRefusals(t *testing.T) {
	t.Parallel()
	for _, c := range []struct {
		why        string
		want       api.Errno
		jti        string
		until, now int64
		clock      int64
	}{
		{"too long, and back", api.ErrLarge, tooLong, 100, 49, 50},
		{"too long, back and expired", api.ErrLarge, tooLong, 1, 49, 50},
		{"too long, and expired", api.ErrLarge, tooLong, 59, 60, 50},
		{"too long", api.ErrLarge, tooLong, 100, 60, 50},
		{"back, and expired", api.ErrBack, "b", 1, 49, 50},
		{"back, and kept", api.ErrBack, "a", 100, 49, 50},
		{"back, expired and kept", api.ErrBack, "a", 48, 49, 50},
		{"expired, and kept", api.ErrExpired, "a", 59, 60, 60},
		{"expired", api.ErrExpired, "b", 59, 60, 60},
		{"expired at the clock", api.ErrExpired, "b", 49, 50, 50},
		{"kept", api.ErrReplay, "a", 100, 60, 60},
		{"kept, with a later end", api.ErrReplay, "a", 999, 100, 100},
		{"kept no more", api.OK, "a", 999, 101, 101},
		{"its own clock is counted", api.OK, "b", 60, 60, 60},
		{"the same clock again", api.OK, "b", 50, 50, 50},
	} {
		b := replay.New()
		mustTake(t, api.OK, b, "a", 100, 50)
		if code := b.Take(c.jti, c.until, c.now); code != c.want {
			t.Errorf("23.2: %s: %d, want %d", c.why, int(code), int(c.want))
		}
		if clock, _ := b.Last(); clock != c.clock {
			t.Errorf("23.2: %s: the clock is %d, want %d", c.why, clock, c.clock)
		}
	}
}

// A new book has no clock: none is below it, and ErrLarge does not give it one.
func TestFirstClock(t *testing.T) {
	t.Parallel()
	for _, now := range []int64{low, low + 1, -1, 0, 1, high - 1, high} {
		b := replay.New()
		mustTake(t, api.ErrLarge, b, tooLong, high, now)
		mustTell(t, b, 0, 0, false)
		mustTake(t, api.OK, b, "a", now, now)
		mustTell(t, b, 1, now, true)
		if now > low {
			b := replay.New()
			mustTake(t, api.ErrExpired, b, "a", now-1, now)
			mustTell(t, b, 0, now, true)
			mustTake(t, api.ErrBack, b, "a", high, now-1)
			mustTell(t, b, 0, now, true)
			mustTake(t, api.ErrBack, b, "a", high, low)
		}
	}
}

// A refusal for ErrExpired or ErrReplay moves the clock, and what it ends, ends; for ErrBack or ErrLarge it does not.
func TestRefusalsMoveTheClock(t *testing.T) {
	t.Parallel()
	fresh := func() *replay.Book {
		b := replay.New()
		mustTake(t, api.OK, b, "a", 10, 5)
		mustTake(t, api.OK, b, "b", 20, 5)
		return b
	}
	b := fresh()
	mustTake(t, api.ErrExpired, b, "c", 0, 11)
	mustTell(t, b, 1, 11, true)
	mustKeep(t, b, "-a", "+b", "-c")
	b = fresh()
	mustTake(t, api.ErrReplay, b, "b", 30, 11)
	mustTell(t, b, 1, 11, true)
	mustKeep(t, b, "-a", "+b")
	b = fresh()
	mustTake(t, api.ErrLarge, b, tooLong, 30, 11)
	mustTell(t, b, 2, 5, true)
	mustKeep(t, b, "+a", "+b")
	mustTake(t, api.ErrBack, b, "c", 30, 4)
	mustTell(t, b, 2, 5, true)
	mustKeep(t, b, "+a", "+b", "-c")
	mustTake(t, api.OK, b, "c", 30, 5)
}

// What refuses a name leaves its end as it was.
func TestRefusedKeepsTheEnd(t *testing.T) {
	t.Parallel()
	b := replay.New()
	mustTake(t, api.OK, b, "a", 10, 5)
	mustTake(t, api.ErrReplay, b, "a", 99, 6)
	mustTake(t, api.ErrReplay, b, "a", 7, 7)
	mustTake(t, api.ErrExpired, b, "a", 7, 8)
	mustTake(t, api.ErrBack, b, "a", 99, 7)
	mustKeep(t, b, "+a")
	mustTake(t, api.ErrReplay, b, "a", 99, 10)
	mustTake(t, api.OK, b, "a", 12, 11)
	mustTake(t, api.ErrReplay, b, "a", 99, 12)
	mustTake(t, api.OK, b, "a", 13, 13)
	mustTell(t, b, 1, 13, true)
}

// All ends and clocks of an int64 count as they are.
func TestEndsOfTime(t *testing.T) {
	t.Parallel()
	b := replay.New()
	mustTake(t, api.OK, b, "first", low, low)
	mustTake(t, api.ErrReplay, b, "first", high, low)
	mustTake(t, api.OK, b, "ever", high, low)
	mustTake(t, api.OK, b, "first", -1, low+1)
	mustTake(t, api.ErrExpired, b, "x", low, low+1)
	mustTake(t, api.ErrReplay, b, "first", high, -1)
	mustTake(t, api.OK, b, "first", 0, 0)
	mustTell(t, b, 2, 0, true)
	mustTake(t, api.ErrExpired, b, "x", low, 0)
	mustTake(t, api.ErrReplay, b, "ever", high, high)
	mustTell(t, b, 1, high, true)
	mustTake(t, api.OK, b, "last", high, high)
	mustTake(t, api.ErrReplay, b, "last", high, high)
	mustTake(t, api.ErrExpired, b, "x", high-1, high)
	for _, now := range []int64{low, -1, 0, 1, high - 1} {
		mustTake(t, api.ErrBack, b, "x", high, now)
	}
	mustTell(t, b, 2, high, true)
	mustKeep(t, b, "+ever", "+last", "-first", "-x")
}

// Every small clock, end and end of a second Take.
func TestSmallTimes(t *testing.T) {
	t.Parallel()
	for _, base := range []int64{low + 3, -2, 0, high - 7} {
		for first := range int64(4) {
			for end := range int64(7) {
				for second := range int64(7) {
					for until := range int64(7) {
						b, s := replay.New(), &slow{}
						holdTake(t, b, s, "a", base+end-3, base+first)
						holdTake(t, b, s, "b", base+5, base+first)
						holdTake(t, b, s, "a", base+until-1, base+second)
						holdBook(t, b, s, "a", "b")
					}
				}
			}
		}
	}
}

// Names are bytes, up to MaxJti of them; two that differ in one byte, or in length alone, are two.
func TestNames(t *testing.T) {
	t.Parallel()
	most := strings.Repeat("x", 1024)
	names := []string{"", "\x00", "\x00\x00", "a", "A", "a\x00", "a ", " a", "aa", "é", "e\u0301", "\xff", "\xff\xfe", "\xed\xa0\x80", "\ufffd", most, most[1:], most[1:] + "y", "y" + most[1:], most[1:] + "\x00"}
	b, s := replay.New(), &slow{}
	for i, jti := range names {
		mustKeep(t, b, "-"+jti)
		if code := holdTake(t, b, s, jti, 10, 1); code != api.OK {
			t.Fatalf("23.2: Take(%s) = %d", quoted(jti), int(code))
		}
		mustTell(t, b, i+1, 1, true)
	}
	for _, jti := range names {
		mustTake(t, api.ErrReplay, b, jti, 10, 1)
		mustTake(t, api.ErrLarge, b, jti+tooLong, 10, 1)
		mustKeep(t, b, "+"+jti, "-"+jti+tooLong)
	}
	for _, n := range []int{1025, 1026, 2048, 65535, 65536, 65537, 65536 + 1024, 1 << 20} {
		mustTake(t, api.ErrLarge, b, strings.Repeat("x", n), 10, 2)
	}
	mustTell(t, b, len(names), 1, true)
	holdBook(t, b, s)
}

// filled: a book and the slow one, with the names 0, 1 .. up to the count, by their ends.
func filled(t *testing.T, count int, end func(i int) int64, now int64) (*replay.Book, *slow) {
	t.Helper()
	b, s := replay.New(), &slow{clock: now, hasClock: true}
	for i := range count {
		mustTake(t, api.OK, b, fmt.Sprint(i), end(i), now)
		s.kept = append(s.kept, named{fmt.Sprint(i), end(i)})
	}
	holdBook(t, b, s)
	return b, s
}

// MaxReplay names and no more, until the clock lets some go.
func TestFull(t *testing.T) {
	t.Parallel()
	b, s := filled(t, 4095, func(i int) int64 { return 10 + int64(i%3)*10 }, 1)
	mustTake(t, api.OK, b, "one more", 40, 1)
	s.take("one more", 40, 1)
	mustTell(t, b, 4096, 1, true)
	mustTake(t, api.ErrFull, b, "x", 99, 1)
	for _, c := range []struct {
		jti        string
		until, now int64
		want       api.Errno
	}{
		{"x", 20, 2, api.ErrFull}, {"", 20, 2, api.ErrFull}, {"7", 20, 2, api.ErrReplay}, {"7", 1, 2, api.ErrExpired}, {"x", 1, 3, api.ErrExpired},
		{tooLong, 20, 4, api.ErrLarge}, {"x", 20, 2, api.ErrBack}, {"x", 20, 9, api.ErrFull}, {"x", 10, 10, api.ErrFull}, {"0", 20, 10, api.ErrReplay},
		{"x", 10, 11, api.ErrExpired}, {"0", 20, 11, api.OK}, {"0", 20, 11, api.ErrReplay}, {"1", 20, 11, api.ErrReplay}, {"x", 99, 20, api.OK},
		{"0", 99, 21, api.OK}, {"2", 99, 30, api.ErrReplay}, {"2", 99, 31, api.OK}, {"one more", 99, 40, api.ErrReplay}, {"one more", 99, 41, api.OK},
	} {
		if code := holdTake(t, b, s, c.jti, c.until, c.now); code != c.want {
			t.Fatalf("23.2: Take(%s, %d, %d) = %d, want %d", quoted(c.jti), c.until, c.now, int(code), int(c.want))
		}
	}
	holdBook(t, b, s)
	mustTell(t, b, 4, 41, true)
}

// ErrFull moves the clock alone; a book whose names live up to 2^63 - 1 stays full for ever.
func TestFullForEver(t *testing.T) {
	t.Parallel()
	b, s := filled(t, 4096, func(int) int64 { return high }, low)
	for _, now := range []int64{low, low + 1, 0, high - 1, high, high} {
		mustTake(t, api.ErrFull, b, "x", high, now)
		mustTell(t, b, 4096, now, true)
		mustTake(t, api.ErrReplay, b, "4095", high, now)
	}
	s.clock = high
	holdBook(t, b, s, "x")
}

// One name that dies makes room for one.
func TestRoomForOne(t *testing.T) {
	t.Parallel()
	b, s := filled(t, 4096, func(i int) int64 { return int64(i) }, 0)
	mustTake(t, api.ErrFull, b, "x", high, 0)
	for now := int64(1); now < 200; now++ {
		for i, want := range []api.Errno{api.OK, api.ErrFull, api.ErrFull} {
			if code := holdTake(t, b, s, fmt.Sprint("x", now, " ", i), high, now); code != want {
				t.Fatalf("23.2: at %d: %d, want %d", now, int(code), int(want))
			}
		}
	}
	holdBook(t, b, s)
}
