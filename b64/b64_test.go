package b64_test

import (
	"bytes"
	"encoding/base64"
	"fmt"
	"math/big"
	"math/rand"
	"strconv"
	"strings"
	"sync"
	"testing"
	"unsafe"

	"signet/api"
	"signet/b64"
)

const (
	common = "ABCDEFGHIJKLMNOPQRSTUVWXYZabcdefghijklmnopqrstuvwxyz0123456789"
	urlRow = common + "-_"
	stdRow = common + "+/"
)

type answer struct {
	bytes string
	code  api.Errno
	at    int
}

func (a answer) String() string { return fmt.Sprintf("%x, %d at %d", a.bytes, int(a.code), a.at) }

type decoder func(string) ([]byte, api.Errno, int)

func ask(f decoder, s string) answer {
	b, e, at := f(s)
	return answer{string(b), e, at}
}

// The chapter's words, taken slowly as texts of 0 and 1: what the package is held against.

func bitsOf(b []byte) string {
	bits := strings.Builder{}
	for _, x := range b {
		fmt.Fprintf(&bits, "%08b", x)
	}
	return bits.String()
}

func wantSpelling(b []byte, row string) string {
	bits := bitsOf(b)
	for len(bits)%6 != 0 {
		bits += "0"
	}
	text := strings.Builder{}
	for ; bits != ""; bits = bits[6:] {
		n, _ := strconv.ParseUint(bits[:6], 2, 8)
		text.WriteByte(row[n])
	}
	return text.String()
}

func wantFilled(b []byte) string {
	text := wantSpelling(b, stdRow)
	for len(text)%4 != 0 {
		text += "="
	}
	return text
}

func wantBytes(signs, row string) answer {
	bits := strings.Builder{}
	for i := range len(signs) {
		fmt.Fprintf(&bits, "%06b", strings.IndexByte(row, signs[i]))
	}
	rest, b := bits.String(), strings.Builder{}
	for ; len(rest) >= 8; rest = rest[8:] {
		n, _ := strconv.ParseUint(rest[:8], 2, 8)
		b.WriteByte(byte(n))
	}
	if strings.Contains(rest, "1") {
		return answer{"", api.ErrBits, len(signs) - 1}
	}
	return answer{b.String(), api.OK, 0}
}

func wantDecode(s string) answer {
	for i := range len(s) {
		if strings.IndexByte(urlRow, s[i]) < 0 {
			return answer{"", api.ErrSign, i}
		}
	}
	if len(s)%4 == 1 {
		return answer{"", api.ErrLen, len(s)}
	}
	return wantBytes(s, urlRow)
}

func wantDecodeStd(s string) answer {
	for i := range len(s) {
		last := s[i] == '=' && i == len(s)-1
		lastButOne := s[i] == '=' && i == len(s)-2 && s[i+1] == '='
		if strings.IndexByte(stdRow, s[i]) < 0 && !last && !lastButOne {
			return answer{"", api.ErrSign, i}
		}
	}
	if len(s)%4 != 0 {
		return answer{"", api.ErrLen, len(s)}
	}
	return wantBytes(strings.ReplaceAll(s, "=", ""), stdRow)
}

// hold asks both decoders of one text, and holds them against the chapter's words (1.2, 1.3), one spelling (1.4) and P4.
func hold(t *testing.T, s string) {
	t.Helper()
	if got, want := ask(b64.Decode, s), wantDecode(s); got != want {
		t.Fatalf("1.2: Decode(%q) = %v, want %v", s, got, want)
	} else if got.code == api.OK && b64.Encode([]byte(got.bytes)) != s {
		t.Fatalf("1.4: Encode(Decode(%q)) = %q", s, b64.Encode([]byte(got.bytes)))
	}
	if got, want := ask(b64.DecodeStd, s), wantDecodeStd(s); got != want {
		t.Fatalf("1.3: DecodeStd(%q) = %v, want %v", s, got, want)
	} else if got.code == api.OK && b64.EncodeStd([]byte(got.bytes)) != s {
		t.Fatalf("1.4: EncodeStd(DecodeStd(%q)) = %q", s, b64.EncodeStd([]byte(got.bytes)))
	}
}

// holdBytes: 1.1 and 1.4 of some bytes.
func holdBytes(t *testing.T, b []byte) {
	t.Helper()
	url, std := b64.Encode(b), b64.EncodeStd(b)
	if want := wantSpelling(b, urlRow); url != want {
		t.Fatalf("1.1: Encode(%x) = %q, want %q", b, url, want)
	}
	if want := wantFilled(b); std != want {
		t.Fatalf("1.1: EncodeStd(%x) = %q, want %q", b, std, want)
	}
	want := answer{string(b), api.OK, 0}
	if got := ask(b64.Decode, url); got != want {
		t.Fatalf("1.4: Decode(%q) = %v, want %v", url, got, want)
	}
	if got := ask(b64.DecodeStd, std); got != want {
		t.Fatalf("1.4: DecodeStd(%q) = %v, want %v", std, got, want)
	}
}

func randomBytes(r *rand.Rand, n int) []byte {
	b := make([]byte, n)
	r.Read(b)
	return b
}

func TestExamplesEncode(t *testing.T) {
	for _, c := range []struct{ b, url, std string }{
		{"", "", ""},
		{"hello", "aGVsbG8", "aGVsbG8="},
		{"\xfb\xff", "-_8", "+/8="},
		{"\x00", "AA", "AA=="},
		{"f", "Zg", "Zg=="},
		{"fo", "Zm8", "Zm8="},
		{"foo", "Zm9v", "Zm9v"},
		{"foob", "Zm9vYg", "Zm9vYg=="},
		{"fooba", "Zm9vYmE", "Zm9vYmE="},
		{"foobar", "Zm9vYmFy", "Zm9vYmFy"},
	} {
		if got := b64.Encode([]byte(c.b)); got != c.url {
			t.Errorf("1.1: Encode(%x) = %q, want %q", c.b, got, c.url)
		}
		if got := b64.EncodeStd([]byte(c.b)); got != c.std {
			t.Errorf("1.1: EncodeStd(%x) = %q, want %q", c.b, got, c.std)
		}
	}
	if b64.Encode(nil) != "" || b64.EncodeStd(nil) != "" {
		t.Error("1.1: a nil list is an empty list")
	}
}

func TestExamplesDecode(t *testing.T) {
	for s, want := range map[string]answer{
		"":         {"", api.OK, 0},
		"aGVsbG8":  {"hello", api.OK, 0},
		"-_8":      {"\xfb\xff", api.OK, 0},
		"AQ":       {"\x01", api.OK, 0},
		"aGVsbG8=": {"", api.ErrSign, 7},
		"+/8":      {"", api.ErrSign, 0},
		"a b":      {"", api.ErrSign, 1},
		"A":        {"", api.ErrLen, 1},
		"AAAAA":    {"", api.ErrLen, 5},
		"AB":       {"", api.ErrBits, 1},
		"AAB":      {"", api.ErrBits, 2},
	} {
		if got := ask(b64.Decode, s); got != want {
			t.Errorf("1.2: Decode(%q) = %v, want %v", s, got, want)
		}
	}
}

func TestExamplesDecodeStd(t *testing.T) {
	for s, want := range map[string]answer{
		"":         {"", api.OK, 0},
		"AA==":     {"\x00", api.OK, 0},
		"+/8=":     {"\xfb\xff", api.OK, 0},
		"AB==":     {"", api.ErrBits, 1},
		"AA=":      {"", api.ErrLen, 3},
		"A===":     {"", api.ErrSign, 1},
		"====":     {"", api.ErrSign, 0},
		"=":        {"", api.ErrLen, 1},
		"AAAA=":    {"", api.ErrLen, 5},
		"AA==AAAA": {"", api.ErrSign, 2},
		"-_8=":     {"", api.ErrSign, 0},
	} {
		if got := ask(b64.DecodeStd, s); got != want {
			t.Errorf("1.3: DecodeStd(%q) = %v, want %v", s, got, want)
		}
	}
}

// The first fault in the chapter's order is told, not the first in the text nor the gravest.
func TestOrderOfFaults(t *testing.T) {
	for s, want := range map[string]answer{
		"AAAB.":  {"", api.ErrSign, 4},
		"AB.":    {"", api.ErrSign, 2},
		"..":     {"", api.ErrSign, 0},
		"AAAAB":  {"", api.ErrLen, 5},
		"AAAAAB": {"", api.ErrBits, 5},
	} {
		if got := ask(b64.Decode, s); got != want {
			t.Errorf("1.2: Decode(%q) = %v, want %v", s, got, want)
		}
	}
	for s, want := range map[string]answer{
		"AB.=":     {"", api.ErrSign, 2},
		"AB=":      {"", api.ErrLen, 3},
		"AB":       {"", api.ErrLen, 2},
		"AAB=":     {"", api.ErrBits, 2},
		"AAAAAB==": {"", api.ErrBits, 5},
	} {
		if got := ask(b64.DecodeStd, s); got != want {
			t.Errorf("1.3: DecodeStd(%q) = %v, want %v", s, got, want)
		}
	}
}

func TestEveryLength(t *testing.T) {
	r := rand.New(rand.NewSource(1))
	for n := range 200 {
		holdBytes(t, make([]byte, n))
		holdBytes(t, bytes.Repeat([]byte{0xff}, n))
		for range 5 {
			holdBytes(t, randomBytes(r, n))
		}
	}
}

func TestEveryByteAndPair(t *testing.T) {
	for x := range 256 {
		holdBytes(t, []byte{byte(x)})
		for y := range 256 {
			holdBytes(t, []byte{byte(x), byte(y)})
			hold(t, string([]byte{byte(x), byte(y)}))
		}
		hold(t, string([]byte{byte(x)}))
	}
}

// Each byte, at each place of a text of each length: bytes that are no sign, bytes of 128 and more, `=`.
func TestEveryByteAtEveryPlace(t *testing.T) {
	for n := 1; n <= 9; n++ {
		for at := range n {
			for x := range 256 {
				s := []byte(strings.Repeat("A", n))
				s[at] = byte(x)
				hold(t, string(s))
			}
		}
	}
}

func TestEveryShortTextOfAFewBytes(t *testing.T) {
	few := "AQgw_/=\n\xff"
	texts := []string{""}
	for range 6 {
		var longer []string
		for _, s := range texts {
			hold(t, s)
			for i := range len(few) {
				longer = append(longer, s+few[i:i+1])
			}
		}
		texts = longer
	}
	for _, s := range texts {
		hold(t, s)
	}
}

// Bits left over: the last sign of two has four of them, that of three two.
func TestBitsLeftOver(t *testing.T) {
	for n := range 64 {
		for _, c := range []struct {
			ahead, fill string
			left        int
		}{{"A", "==", 16}, {"AA", "=", 4}, {"AAA", "", 1}, {"AAAAA", "==", 16}, {"AAAAAA", "=", 4}} {
			url, std := c.ahead+urlRow[n:n+1], c.ahead+stdRow[n:n+1]+c.fill
			code, at := api.OK, 0
			if n%c.left != 0 {
				code, at = api.ErrBits, len(c.ahead)
			}
			if got := ask(b64.Decode, url); got.code != code || got.at != at {
				t.Errorf("1.2: Decode(%q) = %v, want %d at %d", url, got, code, at)
			}
			if got := ask(b64.DecodeStd, std); got.code != code || got.at != at {
				t.Errorf("1.3: DecodeStd(%q) = %v, want %d at %d", std, got, code, at)
			}
		}
	}
}

// Each place at which one `=`, or two in a row, may and may not stand.
func TestPlacesOfFilling(t *testing.T) {
	for n := 1; n <= 13; n++ {
		for at := range n {
			holdFilling(t, n, at, 1)
			if at+2 <= n {
				holdFilling(t, n, at, 2)
			}
		}
	}
}

func holdFilling(t *testing.T, n, at, fill int) {
	t.Helper()
	s := strings.Repeat("A", at) + strings.Repeat("=", fill) + strings.Repeat("A", n-at-fill)
	var want answer
	switch {
	case at+fill < n:
		want = answer{"", api.ErrSign, at}
	case n%4 != 0:
		want = answer{"", api.ErrLen, n}
	default:
		want = answer{strings.Repeat("\x00", n/4*3-fill), api.OK, 0}
	}
	if got := ask(b64.DecodeStd, s); got != want {
		t.Errorf("1.3: DecodeStd(%q) = %v, want %v", s, got, want)
	}
	if got, want := ask(b64.Decode, s), (answer{"", api.ErrSign, at}); got != want {
		t.Errorf("1.2: Decode(%q) = %v, want %v", s, got, want)
	}
}

// 1.5: the number that the signs are in the base 64.
func TestNumber(t *testing.T) {
	r := rand.New(rand.NewSource(5))
	for n := range 60 {
		b := randomBytes(r, n)
		got, base := new(big.Int), big.NewInt(64)
		for _, sign := range []byte(b64.Encode(b)) {
			got.Mul(got, base)
			got.Add(got, big.NewInt(int64(strings.IndexByte(urlRow, sign))))
		}
		want := new(big.Int).SetBytes(b)
		want.Mul(want, big.NewInt([]int64{1, 16, 4}[n%3]))
		if got.Cmp(want) != 0 {
			t.Fatalf("1.5: Encode(%x) is %v, want %v", b, got, want)
		}
	}
}

func TestInARow(t *testing.T) {
	r := rand.New(rand.NewSource(6))
	for n := 0; n < 30; n += 3 {
		for m := range 10 {
			a, b := randomBytes(r, n), randomBytes(r, m)
			if got, want := b64.Encode(append(a[:n:n], b...)), b64.Encode(a)+b64.Encode(b); got != want {
				t.Fatalf("1.5: Encode(%x %x) = %q, want %q", a, b, got, want)
			}
		}
	}
}

// P1 and P5: texts of any length end, and the answer is that of another algorithm.
func TestLong(t *testing.T) {
	r := rand.New(rand.NewSource(7))
	for n := 1<<20 - 1; n <= 1<<20+1; n++ {
		b := randomBytes(r, n)
		url, std := b64.Encode(b), b64.EncodeStd(b)
		if url != base64.RawURLEncoding.EncodeToString(b) || std != base64.StdEncoding.EncodeToString(b) {
			t.Fatalf("P5: the spelling of %d bytes", n)
		}
		if ask(b64.Decode, url) != (answer{string(b), api.OK, 0}) || ask(b64.DecodeStd, std) != (answer{string(b), api.OK, 0}) {
			t.Fatalf("P5: the bytes of %d signs", len(url))
		}
		if got := ask(b64.Decode, url+"\x80"); got != (answer{"", api.ErrSign, len(url)}) {
			t.Fatalf("P1: %d at %d", got.code, got.at)
		}
		if got := ask(b64.DecodeStd, std+"\x80"); got.code != api.ErrSign {
			t.Fatalf("P1: %d at %d", got.code, got.at)
		}
	}
}

// P1: whatever bytes.
func TestWhateverBytes(t *testing.T) {
	r := rand.New(rand.NewSource(8))
	for n := range 3000 {
		hold(t, string(randomBytes(r, n%50)))
		s := []byte(b64.EncodeStd(randomBytes(r, 1+n%50)))
		s[r.Intn(len(s))] = byte(r.Intn(256))
		hold(t, string(s))
	}
}

// P2: what is handed to Encode stays as it was, its spare room too, and is not kept.
func TestEncodeLeavesItsBytes(t *testing.T) {
	for name, f := range map[string]func([]byte) string{"Encode": b64.Encode, "EncodeStd": b64.EncodeStd} {
		for n := range 20 {
			room := bytes.Repeat([]byte{0xa5}, 40)
			text := f(room[:n])
			if !bytes.Equal(room, bytes.Repeat([]byte{0xa5}, 40)) {
				t.Errorf("P2: %s changes its %d bytes, or their spare room", name, n)
			}
			before := strings.Clone(text)
			clear(room)
			if text != before {
				t.Errorf("P2: the answer of %s hangs on the %d bytes handed in", name, n)
			}
		}
	}
}

// P2: what a decoder hands out is new memory, its spare room too.
func TestDecodeAnswersNewMemory(t *testing.T) {
	for name, f := range map[string]decoder{"Decode": b64.Decode, "DecodeStd": b64.DecodeStd} {
		for n := range 8 {
			room := []byte(strings.Repeat("AQID", n))
			before := strings.Repeat("AQID", n)
			text := unsafe.String(unsafe.SliceData(room), len(room))
			one, _, _ := f(text)
			two, _, _ := f(text)
			want := strings.Repeat("\x01\x02\x03", n)
			fill(one[:cap(one)], 0xa5)
			if string(room) != before || string(two) != want {
				t.Errorf("P2: an answer of %s shares memory with the text, or with another answer", name)
			}
			fill(room, 'Z')
			if string(two) != want {
				t.Errorf("P2: %s keeps the text", name)
			}
		}
	}
}

func fill(b []byte, x byte) {
	for i := range b {
		b[i] = x
	}
}

// P3: an answer hangs on the argument alone, whoever else asks what.
func TestNothingIsKept(t *testing.T) {
	texts := []string{"", "A", "AQ", "AB", "AA==", "a b", "aGVsbG8", "+/8=", "-_8", "===="}
	var work sync.WaitGroup
	for range 8 {
		work.Go(func() {
			for i := range 2000 {
				s := texts[i*7%len(texts)]
				if ask(b64.Decode, s) != wantDecode(s) || ask(b64.DecodeStd, s) != wantDecodeStd(s) {
					t.Errorf("P3: another answer to %q", s)
				}
				if b := []byte(s); b64.Encode(b) != wantSpelling(b, urlRow) || b64.EncodeStd(b) != wantFilled(b) {
					t.Errorf("P3: another spelling of %q", s)
				}
			}
		})
	}
	work.Wait()
}

// P4: a refusal has no bytes; where nothing is refused, no place.
func TestRefusalsAreBare(t *testing.T) {
	for _, s := range []string{"AAAA.", "AAAAA", "AAAAAB", "AAAAAAB", "AAAA====", "AAAA=", "AAAAAB==", "AAAAAAB="} {
		for name, f := range map[string]decoder{"Decode": b64.Decode, "DecodeStd": b64.DecodeStd} {
			if b, e, _ := f(s); e == api.OK || len(b) != 0 {
				t.Errorf("P4: %s(%q) = %x, %d", name, s, b, e)
			}
		}
	}
}
