package decimal_test

import (
	"math"
	"math/big"
	"math/rand"
	"regexp"
	"strconv"
	"strings"
	"sync"
	"testing"
	"unsafe"

	"signet/api"
	"signet/decimal"
)

// form: the chapter's form of a number.
var form = regexp.MustCompile(`\A-?(0|[1-9][0-9]*)(\.[0-9]+)?([eE][+-]?[0-9]+)?\z`)

// The chapter's words, taken with big.Rat: what the package is held against. Exponents are small there.

func valueOf(t *testing.T, text string) *big.Rat {
	t.Helper()
	v, ok := new(big.Rat).SetString(text)
	if !ok || !form.MatchString(text) {
		t.Fatalf("%q is no number to test with", text)
	}
	return v
}

// valueOfBits: (2^23 + f) 2^(x - 150), or f 2^-149; of a float32 that is no infinity and not none.
func valueOfBits(b uint32) *big.Rat {
	x, f := int(b>>23&0xff), int64(b&0x7fffff)
	if x == 0 {
		x = 1
	} else {
		f += 1 << 23
	}
	v := new(big.Rat).SetFrac(new(big.Int).Lsh(big.NewInt(f), uint(x)), new(big.Int).Lsh(big.NewInt(1), 150))
	if b>>31 == 1 {
		v.Neg(v)
	}
	return v
}

const greatest, least, infinite, minus = 0x7f7fffff, 1, 0x7f800000, 0x80000000

// middle between the values of b and b + 1; of the greatest one 2^128 - 2^103.
func middle(b uint32) *big.Rat {
	if b == greatest {
		n := new(big.Int).Lsh(big.NewInt(1<<25-1), 103)
		return new(big.Rat).SetInt(n)
	}
	sum := new(big.Rat).Add(valueOfBits(b), valueOfBits(b+1))
	return sum.Mul(sum, big.NewRat(1, 2))
}

// wantNearest: of all float32s the nearest one, found by halving between the middles.
func wantNearest(t *testing.T, text string) uint32 {
	t.Helper()
	v := valueOf(t, text)
	v.Abs(v)
	low, high := uint32(0), uint32(infinite)
	for low < high {
		b := low + (high-low)/2
		if c := v.Cmp(middle(b)); c < 0 || c == 0 && b&1 == 0 {
			high = b
		} else {
			low = b + 1
		}
	}
	if text[0] == '-' {
		low |= minus
	}
	return low
}

// textOf: a number's text of a value that ends, in the base ten.
func textOf(v *big.Rat) string {
	places, _ := v.FloatPrec()
	return v.FloatString(places)
}

func wantExact(b uint32) string {
	if b>>23&0xff == 0xff {
		return ""
	}
	text := strings.TrimPrefix(textOf(valueOfBits(b)), "-")
	if b>>31 == 1 {
		text = "-" + text
	}
	return text
}

// Asking, with every answer held against P4 as well.

func compare(t *testing.T, a, b string) int {
	t.Helper()
	n, e := decimal.Compare(a, b)
	if e != api.OK || n < -1 || n > 1 {
		t.Fatalf("2.3: Compare(%.60q, %.60q) = %d, %d", a, b, n, int(e))
	}
	return n
}

func nearest(t *testing.T, text string) uint32 {
	t.Helper()
	b, e := decimal.Nearest(text)
	if e != api.OK {
		t.Fatalf("2.4: Nearest(%.60q) = %08x, %d", text, b, int(e))
	}
	return b
}

func holdCompare(t *testing.T, a, b string, want int) {
	t.Helper()
	if got := compare(t, a, b); got != want {
		t.Errorf("2.3: Compare(%.60q, %.60q) = %d, want %d", a, b, got, want)
	}
	if got := compare(t, b, a); got != -want {
		t.Errorf("2.7: Compare(%.60q, %.60q) = %d, want %d", b, a, got, -want)
	}
}

func holdNearest(t *testing.T, text string, want uint32) {
	t.Helper()
	if got := nearest(t, text); got != want {
		t.Errorf("2.4: Nearest(%.60q) = %08x, want %08x", text, got, want)
	}
	if got := nearest(t, "-"+text); got != want|minus {
		t.Errorf("2.4: Nearest(-%.60q) = %08x, want %08x", text, got, want|minus)
	}
}

// holdNone: a text that is no number is refused by every call, at either place of Compare, and bare.
func holdNone(t *testing.T, text string) {
	t.Helper()
	if decimal.Valid(text) {
		t.Errorf("2.1: Valid(%q)", text)
	}
	if n, ok := decimal.Whole(text); ok || n != 0 {
		t.Errorf("2.2: Whole(%q) = %d, %v", text, n, ok)
	}
	if b, e := decimal.Nearest(text); e != api.ErrNumber || b != 0 {
		t.Errorf("2.4: Nearest(%q) = %08x, %d", text, b, int(e))
	}
	for _, pair := range [][2]string{{text, "1"}, {"1", text}, {text, text}, {text, "-1e999"}, {"0", text}} {
		if n, e := decimal.Compare(pair[0], pair[1]); e != api.ErrNumber || n != 0 {
			t.Errorf("2.3: Compare(%q, %q) = %d, %d", pair[0], pair[1], n, int(e))
		}
	}
}

func TestExamples(t *testing.T) {
	for _, s := range []string{"0", "-0", "1.50e-007", "1E+5"} {
		if !decimal.Valid(s) {
			t.Errorf("2.1: Valid(%q) is false", s)
		}
	}
	for _, s := range []string{"", "-", "01", "1.", ".5", "+1", "1e", "1e+", "0x1", " 1"} {
		holdNone(t, s)
	}
	for s, want := range map[string]int64{"-0": 0, "9223372036854775807": math.MaxInt64, "-9223372036854775808": math.MinInt64} {
		if n, ok := decimal.Whole(s); !ok || n != want {
			t.Errorf("2.2: Whole(%q) = %d, %v", s, n, ok)
		}
	}
	for _, s := range []string{"9223372036854775808", "1.0", "1e3", "01"} {
		if n, ok := decimal.Whole(s); ok || n != 0 {
			t.Errorf("2.2: Whole(%q) = %d, %v", s, n, ok)
		}
	}
	holdCompare(t, "1e2", "100.0", 0)
	holdCompare(t, "-1", "0e99999999999999999999", -1)
	holdCompare(t, "1e99999999999999999999", "1e99999999999999999998", 1)
	holdCompare(t, "-0", "0", 0)
	holdCompare(t, "0.1", "0.10000000000000000000001", -1)
	if n, e := decimal.Compare("x", "1"); n != 0 || e != api.ErrNumber {
		t.Errorf("2.3: Compare(x, 1) = %d, %d", n, int(e))
	}
	for s, want := range map[string]uint32{
		"1": 0x3f800000, "-0": 0x80000000, "0.1": 0x3dcccccd, "16777217": 0x4b800000, "16777219": 0x4b800002,
		"1.00000005960464477539062500000000000000000001": 0x3f800001,
		"1.0000000596046447753906250000000000000000000":  0x3f800000,
		"340282356779733661637539395458142568447":        0x7f7fffff,
		"340282356779733661637539395458142568448":        0x7f800000,
		"-1e39": 0xff800000, "1e-999": 0, "-1e99999999999999999999": 0xff800000, "7e-46": 0, "7.1e-46": 1,
	} {
		if got := nearest(t, s); got != want {
			t.Errorf("2.4: Nearest(%q) = %08x, want %08x", s, got, want)
		}
	}
	for b, want := range map[uint32]string{0x3f800000: "1", 0x3dcccccd: "0.100000001490116119384765625", 0x80000000: "-0", 0xc0200000: "-2.5", 0x7f800000: ""} {
		if got := decimal.Exact(b); got != want {
			t.Errorf("2.5: Exact(%08x) = %q, want %q", b, got, want)
		}
	}
}

// 2.1: every text of up to six signs, of those that the form tells apart, and some that it does not know.
func TestValidOfAllShortTexts(t *testing.T) {
	const signs = "-+.eE019x "
	level := []string{""}
	for range 6 {
		var next []string
		for _, s := range level {
			for _, sign := range signs {
				next = append(next, s+string(sign))
			}
		}
		for _, s := range next {
			if got, want := decimal.Valid(s), form.MatchString(s); got != want {
				t.Fatalf("2.1: Valid(%q) = %v", s, got)
			}
		}
		level = next
	}
}

// 2.1: every byte at every place of a number that has all parts.
func TestValidOfEveryByte(t *testing.T) {
	const whole = "-120.450e+067"
	for at := range len(whole) + 1 {
		for sign := range 256 {
			put := whole[:at] + string([]byte{byte(sign)}) + whole[at:]
			texts := []string{put}
			if at < len(whole) {
				texts = append(texts, whole[:at]+put[at:at+1]+whole[at+1:])
			}
			for _, s := range texts {
				if got, want := decimal.Valid(s), form.MatchString(s); got != want {
					t.Fatalf("2.1: Valid(%q) = %v", s, got)
				}
			}
		}
	}
}

func TestNoNumbers(t *testing.T) {
	for _, s := range []string{
		"", "-", "--1", "+1", "-+1", "01", "-01", "00", "0000.1", "1.", "-1.", ".5", "-.5", "1.e5", "1..2", "1.2.3",
		"1e", "1E", "1e+", "1e-", "1e+-1", "1ee1", "1e5e5", "1e1.5", "e5", "-e5", "1 ", " 1", "1\n", "\t1", "1\x00", "\x001",
		"0x1", "0x1p4", "1_000", "1,5", "1/2", "1f", "NaN", "nan", "Infinity", "-Infinity", "inf", "true", "null", `"1"`,
		"٣", "１", "1٣", "−1", "1\xff", "0b1", "0o7", "1e٣", "1" + strings.Repeat("0", 5000) + "x", strings.Repeat("9", 5000) + ".", "-" + strings.Repeat("0", 5000),
	} {
		holdNone(t, s)
	}
}

func TestWhole(t *testing.T) {
	for s, want := range map[string]int64{
		"0": 0, "-0": 0, "1": 1, "-1": -1, "10": 10, "-17": -17, "999999999999999999": 999999999999999999,
		"9223372036854775806": math.MaxInt64 - 1, "9223372036854775807": math.MaxInt64,
		"-9223372036854775807": math.MinInt64 + 1, "-9223372036854775808": math.MinInt64,
	} {
		if n, ok := decimal.Whole(s); !ok || n != want {
			t.Errorf("2.2: Whole(%q) = %d, %v, want %d", s, n, ok, want)
		}
	}
	for _, s := range []string{
		"9223372036854775808", "-9223372036854775809", "9223372036854775810", "10000000000000000000", "18446744073709551615", "18446744073709551616",
		"18446744073709551617", "-18446744073709551616", "340282366920938463463374607431768211457", strings.Repeat("9", 3000), "-1" + strings.Repeat("0", 3000),
		"1.0", "-1.0", "0.0", "-0.0", "1e0", "1E0", "0e0", "-0e0", "1e3", "1e-3", "10e-1", "1.5", "1.0e1", "1e+0",
		"01", "-01", "00", "+1", "-", "", "1_0", "0x1", " 1", "1 ", "--1", "+0",
	} {
		if n, ok := decimal.Whole(s); ok || n != 0 {
			t.Errorf("2.2: Whole(%q) = %d, %v", s, n, ok)
		}
	}
	r := rand.New(rand.NewSource(2))
	for range 20000 {
		want := int64(r.Uint64()) >> r.Intn(64)
		if n, ok := decimal.Whole(strconv.FormatInt(want, 10)); !ok || n != want {
			t.Fatalf("2.2: Whole(%d) = %d, %v", want, n, ok)
		}
	}
}

// noughts: the values that are 0, in many spellings.
var noughts = []string{"0", "-0", "0.0", "-0.000", "0e0", "-0e0", "0E+5", "0e-5", "0.0e99999999999999999999", "0e-99999999999999999999", "-0.00e+99999999999999999999", "0e" + strings.Repeat("9", 300)}

func TestNoughts(t *testing.T) {
	for _, s := range noughts {
		holdNearest(t, strings.TrimPrefix(s, "-"), 0)
		for _, other := range noughts {
			holdCompare(t, s, other, 0)
		}
		for _, small := range []string{"1e-99999999999999999999", "0.00000001", "1", "1e99999999999999999999", "1e-" + strings.Repeat("9", 400)} {
			holdCompare(t, s, small, -1)
			holdCompare(t, s, "-"+small, 1)
		}
	}
}

func TestCompareOfLongPowers(t *testing.T) {
	nines, noughts := strings.Repeat("9", 200), strings.Repeat("0", 200)
	for _, c := range []struct {
		a, b string
		want int
	}{
		// Just beside each other, beyond all that an int64 or a uint64 holds.
		{"1e9223372036854775807", "1e9223372036854775808", -1}, {"10e9223372036854775807", "1e9223372036854775808", 0},
		{"1e18446744073709551616", "1e0", 1}, {"1e18446744073709551617", "1e1", 1}, {"1e-18446744073709551616", "1", -1},
		{"1e18446744073709551616", "1e18446744073709551617", -1}, {"1e-18446744073709551616", "1e18446744073709551616", -1},
		{"1e-99999999999999999999", "1e-99999999999999999998", -1}, {"0.1e-99999999999999999998", "1e-99999999999999999999", 0},
		{"0.01e100000000000000000001", "1e99999999999999999999", 0}, {"100e99999999999999999998", "1e100000000000000000000", 0},
		{"100e99999999999999999998", "1.000000000000000001e100000000000000000000", -1}, {"9e" + nines, "10e" + nines, -1},
		{"1e1" + noughts, "10e" + nines, 0}, {"1e1" + noughts, "9.99e" + nines, 1}, {"1e-1" + noughts, "0.1e-" + nines, 0},
		{"1e-1" + noughts, "1e-" + nines, -1}, {"1e" + nines, "1e-" + nines, 1}, {"1e" + nines, "1e+" + nines, 0},
		// Noughts ahead of a power say nothing.
		{"5e" + noughts, "5", 0}, {"5e" + noughts + "3", "5000", 0}, {"5e-" + noughts + "3", "0.005", 0}, {"5e-" + noughts, "5e+" + noughts, 0},
		{"1e" + noughts + nines, "1e" + nines, 0}, {"1e0000000000000000000000000000001", "1e2", -1}, {"1e-000", "1E+0", 0},
		// Either sign, in number and power.
		{"-2", "-3", 1}, {"-1e5", "1e-5", -1}, {"-1e5", "-1e-5", -1}, {"-1e99999999999999999999", "-1e99999999999999999998", -1},
		{"-1e-99999999999999999999", "-1e-99999999999999999998", 1}, {"-1e99999999999999999999", "1e-99999999999999999999", -1},
		// Powers whose digits cross.
		{"1e100000000000000000000000000000000000000000", "1e99999999999999999999999999999999999999999", 1},
		{"1e-100000000000000000000000000000000000000000", "1e-99999999999999999999999999999999999999999", -1},
		{"1e20000000000000000000000000000000000000000", "1e19999999999999999999999999999999999999999", 1},
		{"1e19999999999999999999999999999999999999999", "10e19999999999999999999999999999999999999998", 0},
		{"1e1099511627776", "1e1099511627777", -1}, {"1e1099511627777", "1e-1099511627777", 1}, {"1e1099511627776", "0.1e1099511627777", 0},
	} {
		holdCompare(t, c.a, c.b, c.want)
		holdCompare(t, c.a, c.a, 0)
	}
}

// Digits and powers that take each other back.
func TestCompareOfShiftedDigits(t *testing.T) {
	for _, n := range []int{0, 1, 2, 17, 18, 19, 20, 300, 9999, 10001, 70000} {
		power, noughts := strconv.Itoa(n), strings.Repeat("0", n)
		holdCompare(t, "12345"+noughts+"e-"+power, "12345", 0)
		holdCompare(t, "0."+noughts+"12345e"+power, "0.12345", 0)
		holdCompare(t, "1"+noughts+".0", "1e"+power, 0)
		holdCompare(t, "1"+noughts+".01", "1e"+power, 1)
		holdCompare(t, "0."+noughts+"1", "1e-"+strconv.Itoa(n+1), 0)
		holdCompare(t, "0."+noughts+"1", "1.0000000000000000000001e-"+strconv.Itoa(n+1), -1)
		holdCompare(t, "1."+noughts+"1", "1", 1)
		holdCompare(t, "1.0"+noughts, "1", 0)
		holdNearest(t, "1"+noughts+"e-"+power, 0x3f800000)
		holdNearest(t, "0."+noughts+"1e"+strconv.Itoa(n+1), 0x3f800000)
		holdNearest(t, "0."+noughts+"25e"+power, 0x3e800000)
		holdNearest(t, "25"+noughts+".0e-"+strconv.Itoa(n+2), 0x3e800000)
	}
}

// randomNumber: a number with a power that is small enough to hold it against big.Rat.
func randomNumber(r *rand.Rand) string {
	digits := func(n int) string {
		b := make([]byte, n)
		for i := range b {
			b[i] = "00123456789999"[r.Intn(14)]
		}
		return string(b)
	}
	text := strings.TrimLeft(digits(r.Intn(1+r.Intn(30))), "0")
	if text == "" {
		text = "0"
	}
	if r.Intn(2) == 0 {
		text = "-" + text
	}
	if r.Intn(3) > 0 {
		text += "." + digits(1+r.Intn(1+r.Intn(40)))
	}
	if r.Intn(3) > 0 {
		text += string("eE"[r.Intn(2)]) + []string{"", "+", "-"}[r.Intn(3)] + strings.Repeat("0", r.Intn(3)) + strconv.Itoa(r.Intn(1+r.Intn(60)))
	}
	return text
}

// respell: another text of the same value.
func respell(r *rand.Rand, v *big.Rat) string {
	text := textOf(v)
	if !strings.Contains(text, ".") {
		text += ".0"
	}
	text += strings.Repeat("0", r.Intn(3))
	whole, fraction, _ := strings.Cut(text, ".")
	return whole + fraction[:1] + "." + fraction[1:] + "0e-1"
}

func TestRandomNumbers(t *testing.T) {
	r := rand.New(rand.NewSource(22))
	last, lastValue := "0", new(big.Rat)
	for range 5000 {
		text := randomNumber(r)
		v := valueOf(t, text)
		if !decimal.Valid(text) {
			t.Fatalf("2.1: Valid(%q) is false", text)
		}
		holdCompare(t, text, last, v.Cmp(lastValue))
		if other := respell(r, v); form.MatchString(other) {
			holdCompare(t, text, other, 0)
			holdCompare(t, other, last, v.Cmp(lastValue))
		}
		want := wantNearest(t, text)
		if got := nearest(t, text); got != want {
			t.Fatalf("2.4: Nearest(%q) = %08x, want %08x", text, got, want)
		}
		if f, _ := strconv.ParseFloat(text, 32); math.Float32bits(float32(f)) != want {
			t.Fatalf("2.4: two ways of wanting: %q: %08x, %08x", text, want, math.Float32bits(float32(f)))
		}
		last, lastValue = text, v
	}
}

// edgeBits: float32s without a sign of every exponent, with fractions at the ends and within.
func edgeBits(r *rand.Rand) []uint32 {
	var out []uint32
	for x := range uint32(255) {
		for _, f := range []uint32{0, 1, 2, 3, 0x3fffff, 0x400000, 0x555555, 0x7ffffd, 0x7ffffe, 0x7fffff, r.Uint32() & 0x7fffff, r.Uint32() & 0x7fffff} {
			out = append(out, x<<23|f)
		}
	}
	for bit := range 23 {
		out = append(out, 1<<bit, 1<<bit+1)
	}
	return out
}

// 2.4, 2.8: at, just below and just above each middle, at digits near and far behind.
func TestNearestAtMiddles(t *testing.T) {
	r := rand.New(rand.NewSource(24))
	for _, b := range edgeBits(r) {
		text := textOf(middle(b))
		even := b + b&1
		holdNearest(t, text, even)
		if !strings.Contains(text, ".") {
			text += "."
		}
		for _, far := range []int{0, 1, 20, 400} {
			holdNearest(t, text+strings.Repeat("0", far)+"1", b+1)
			holdNearest(t, text+strings.Repeat("0", far+1), even)
		}
		below := new(big.Rat).Sub(middle(b), new(big.Rat).SetFrac(big.NewInt(1), new(big.Int).Exp(big.NewInt(10), big.NewInt(170), nil)))
		holdNearest(t, textOf(below), b)
	}
	long := textOf(middle(0x00000001)) + strings.Repeat("0", 3000)
	holdNearest(t, long, 2)
	holdNearest(t, textOf(middle(0x00000002))+strings.Repeat("0", 3000)+"1", 3)
	holdNearest(t, textOf(middle(0x00000002))+strings.Repeat("0", 3000), 2)
}

func TestNearestAtTheEnds(t *testing.T) {
	for text, want := range map[string]uint32{
		"340282346638528859811704183484516925440": greatest, "340282346638528859811704183484516925441": greatest,
		"340282356779733661637539395458142568447":                       greatest,
		"340282356779733661637539395458142568447.999999999999999999999": greatest,
		"340282356779733661637539395458142568448":                       infinite,
		"340282356779733661637539395458142568448.0":                     infinite,
		"340282366920938463463374607431768211456":                       infinite,
		"680564733841876926926749214863536422912":                       infinite,
		"999999999999999999999999999999999999999.9":                     infinite,
		"3.40282356779733661637539395458142568447e38":                   greatest,
		"3.40282356779733661637539395458142568448e+38":                  infinite,
		"1e38": 0x7e967699, "1e39": infinite, "1e40": infinite, "9e38": infinite, "1e400": infinite, "1e18446744073709551616": infinite,
		"1e4294967296": infinite, "1e" + strings.Repeat("9", 500): infinite, "0.00001e99999999999999999999": infinite,
		"0.7006492321624085e-45": 0, "7.006492321624085e-46": 0, "7.006492321624086e-46": least,
		"0.00000000000000000000000000000000000000000000070064923216240853546186479164495806564013097093825788587853414194489554134293030074331909418106079101562499":  0,
		"0.0000000000000000000000000000000000000000000007006492321624085354618647916449580656401309709382578858785341419448955413429303007433190941810607910156250":   0,
		"0.00000000000000000000000000000000000000000000070064923216240853546186479164495806564013097093825788587853414194489554134293030074331909418106079101562501":  least,
		"0.0000000000000000000000000000000000000000000007006492321624085354618647916449580656401309709382578858785341419448955413429303007433190941810607910156250e1": 5,
		"1e-45": least, "1.4e-45": least, "1e-46": 0, "9.999e-46": least, "9e-47": 0, "1e-47": 0, "1e-400": 0, "1e-18446744073709551616": 0, "1e-4294967296": 0,
		"1e-" + strings.Repeat("9", 500): 0, "99999e-99999999999999999999": 0, "1e-18446744073709551570": 0,
		"1.1754943508222875e-38": 0x800000, "1.1754942e-38": 0x7fffff, "1.1754942807573643e-38": 0x800000, "1.1754942807573642e-38": 0x7fffff,
	} {
		holdNearest(t, text, want)
	}
}

func TestExact(t *testing.T) {
	r := rand.New(rand.NewSource(25))
	for _, size := range edgeBits(r) {
		for _, b := range []uint32{size, size | minus} {
			if got, want := decimal.Exact(b), wantExact(b); got != want {
				t.Fatalf("2.5: Exact(%08x) = %q, want %q", b, got, want)
			}
		}
	}
	for _, f := range []uint32{0, 1, 2, 0x3fffff, 0x400000, 0x400001, 0x7ffffe, 0x7fffff, r.Uint32() & 0x7fffff} {
		for _, sign := range []uint32{0, minus} {
			if got := decimal.Exact(sign | infinite | f); got != "" {
				t.Errorf("2.5: Exact(%08x) = %q", sign|infinite|f, got)
			}
		}
	}
	for b, want := range map[uint32]string{0: "0", minus: "-0", 0x3f000000: "0.5", 0xbf000000: "-0.5", 0x41200000: "10", 0x42c80000: "100", greatest: "340282346638528859811704183484516925440"} {
		if got := decimal.Exact(b); got != want {
			t.Errorf("2.5: Exact(%08x) = %q, want %q", b, got, want)
		}
	}
}

var exactForm = regexp.MustCompile(`\A-?(0|[1-9][0-9]*)(\.[0-9]*[1-9])?\z`)

func TestJustThisOne(t *testing.T) {
	r := rand.New(rand.NewSource(26))
	all := edgeBits(r)
	for range 200000 {
		all = append(all, r.Uint32())
	}
	for _, b := range all {
		text := decimal.Exact(b)
		if none := b>>23&0xff == 0xff; none != (text == "") {
			t.Fatalf("2.5: Exact(%08x) = %q", b, text)
		} else if none {
			continue
		}
		if !exactForm.MatchString(text) || !decimal.Valid(text) {
			t.Fatalf("2.6: Exact(%08x) = %q", b, text)
		}
		if got := nearest(t, text); got != b {
			t.Fatalf("2.6: Nearest(Exact(%08x)) = %08x", b, got)
		}
		if compare(t, text, text) != 0 {
			t.Fatalf("2.6: %q is not what it is", text)
		}
	}
}

// 2.7: chosen numbers of which each is below the next one, or the same.
func TestOrder(t *testing.T) {
	rising := []string{
		"-1e99999999999999999999", "-1e99999999999999999998", "-1e39", "-340282356779733661637539395458142568448", "-340282356779733661637539395458142568447",
		"-9223372036854775809", "-9223372036854775808", "-9223372036854775807", "-16777217", "-16777216", "-1.00000006", "-1.00000005", "-1", "-0.99999999", "-1e-45", "-7e-46", "-1e-99999999999999999999",
		"-0", "0", "0e5", "0.0", "1e-99999999999999999999", "1e-99999999999999999998", "7e-46", "7.1e-46", "1.17549421e-38", "1.17549436e-38", "0.1", "0.10000000000000000000001", "0.2",
		"1", "1.0", "10e-1", "1.00000005", "1.00000006", "2", "16777216", "16777217", "16777218", "16777219", "9223372036854775806", "9223372036854775807", "9223372036854775808",
		"340282356779733661637539395458142568447", "340282356779733661637539395458142568448", "1e39", "1e99999999999999999998", "1e99999999999999999999",
	}
	for i, a := range rising {
		for j, b := range rising {
			if c := compare(t, a, b); i < j && c > 0 || i > j && c < 0 || i == j && c != 0 {
				t.Errorf("2.7: Compare(%q, %q) = %d", a, b, c)
			} else if c != -compare(t, b, a) {
				t.Errorf("2.7: Compare(%q, %q) is not the opposite of the other way", a, b)
			}
			holdOrder(t, a, b)
		}
	}
	r := rand.New(rand.NewSource(27))
	last := "0"
	for range 20000 {
		text := randomNumber(r)
		holdOrder(t, text, last)
		last = text
	}
	for range 20000 {
		holdOrder(t, strconv.FormatInt(int64(r.Uint64())>>r.Intn(64), 10), strconv.FormatInt(int64(r.Uint64())>>r.Intn(64), 10))
	}
}

// holdOrder: Nearest goes with Compare, and so does Whole.
func holdOrder(t *testing.T, a, b string) {
	t.Helper()
	c := compare(t, a, b)
	x, y := math.Float32frombits(nearest(t, a)), math.Float32frombits(nearest(t, b))
	if c != 1 && x > y || c != -1 && x < y {
		t.Fatalf("2.7: Compare(%q, %q) = %d, nearest %g, %g", a, b, c, x, y)
	}
	n, okA := decimal.Whole(a)
	m, okB := decimal.Whole(b)
	if okA && okB && (c < 0 != (n < m) || c > 0 != (n > m)) {
		t.Fatalf("2.7: Compare(%q, %q) = %d, whole %d, %d", a, b, c, n, m)
	}
}

// 2.7: if a is not above b, and b not above c, a is not above c.
func TestOrderOfThree(t *testing.T) {
	r := rand.New(rand.NewSource(28))
	powers := []string{"", "e1", "e-1", "e2", "e99999999999999999999", "e99999999999999999998", "e-99999999999999999999", "e100000000000000000000", "e-0"}
	draw := func() string {
		return []string{"", "-"}[r.Intn(2)] + []string{"0", "1", "10", "0.1", "1.0", "9.99", "100", "0.01"}[r.Intn(8)] + powers[r.Intn(len(powers))]
	}
	for range 50000 {
		a, b, c := draw(), draw(), draw()
		if compare(t, a, b) < 1 && compare(t, b, c) < 1 && compare(t, a, c) == 1 {
			t.Fatalf("2.7: %q, %q, %q", a, b, c)
		}
	}
}

// 2.8, by the package's own Compare: x stands between the middles around its nearest.
func TestBetweenMiddles(t *testing.T) {
	r := rand.New(rand.NewSource(29))
	for range 20000 {
		x := strings.TrimPrefix(randomNumber(r), "-")
		b := nearest(t, x)
		if b == infinite {
			continue
		}
		if c := compare(t, x, textOf(middle(b))); c > 0 || c == 0 && (b&1 == 1 || b == greatest) {
			t.Fatalf("2.8: %q is above the middle behind %08x", x, b)
		}
		if b == 0 {
			continue
		}
		if c := compare(t, x, textOf(middle(b-1))); c < 0 || c == 0 && b&1 == 1 {
			t.Fatalf("2.8: %q is below the middle ahead of %08x", x, b)
		}
	}
}

// There are no limits, and the work hangs on the length: a million digits in every part, and powers that no memory could write out.
func TestLongTexts(t *testing.T) {
	const n = 1 << 20
	digits, noughts := strings.Repeat("7", n), strings.Repeat("0", n)
	holdCompare(t, digits, digits+".1", -1)
	holdCompare(t, digits, "0."+digits+"e"+strconv.Itoa(n), 0)
	holdCompare(t, "1e"+digits, "10e"+digits, -1)
	holdCompare(t, "1e"+digits+"8", "10e"+digits+"7", 0)
	holdCompare(t, "1e-"+noughts+digits, "1e-"+digits, 0)
	holdCompare(t, "0."+noughts+"1", "1e-"+strconv.Itoa(n+1), 0)
	holdNearest(t, digits, infinite)
	holdNearest(t, "0."+digits, nearest(t, "0.7777777777777777777777777777777777777777"))
	holdNearest(t, "0."+digits+"e"+digits, infinite)
	holdNearest(t, "0."+digits+"e-"+digits, 0)
	holdNearest(t, "0."+noughts+"1e"+strconv.Itoa(n+1), 0x3f800000)
	holdNearest(t, "1"+noughts+"e-"+strconv.Itoa(n), 0x3f800000)
	holdNearest(t, "1e"+noughts+"1", 0x41200000)
	for _, s := range []string{digits, "-" + digits, "1e" + digits, "1." + digits} {
		if v, ok := decimal.Whole(s); ok || v != 0 {
			t.Errorf("2.2: Whole of a long text: %d, %v", v, ok)
		}
	}
	holdCompare(t, "1e2000000000", "1e1999999999", 1)
	holdNearest(t, "1e2000000000", infinite)
	holdNearest(t, "1e-2000000000", 0)
}

// P2: the bytes of a text, and those behind it, stay; an answer stands when the text is gone.
func TestNothingIsChangedOrKept(t *testing.T) {
	room := []byte("-12.50e+1999")
	text := unsafe.String(&room[0], 9)
	if !decimal.Valid(text) || nearest(t, text) != 0xc2fa0000 || compare(t, text, "-125") != 0 || compare(t, "-125", text) != 0 {
		t.Error("P2: -12.50e+1")
	}
	decimal.Whole(text)
	if string(room) != "-12.50e+1999" {
		t.Errorf("P2: changed: %q", room)
	}
	copy(room, "999999999999")
	if nearest(t, "-12.50e+1") != 0xc2fa0000 || compare(t, "-12.50e+1", "-125") != 0 {
		t.Error("P3: an answer hangs on what came ahead of it")
	}
	one, other := decimal.Exact(0x3dcccccd), decimal.Exact(0x3dcccccd)
	if one != other || unsafe.StringData(one) == unsafe.StringData(other) {
		t.Error("P2: two answers share memory, or differ")
	}
}

// P3: many at once answer what one does.
func TestAtOnce(t *testing.T) {
	var all sync.WaitGroup
	for g := range 8 {
		all.Go(func() {
			r := rand.New(rand.NewSource(int64(g)))
			for range 2000 {
				b := r.Uint32() &^ infinite
				if got, e := decimal.Nearest(decimal.Exact(b)); got != b || e != api.OK {
					t.Errorf("P3: %08x: %08x, %d", b, got, int(e))
					return
				}
			}
		})
	}
	all.Wait()
}

// P1: whatever the bytes are, every call ends, and they agree on what is a number.
func FuzzCalls(f *testing.F) {
	for _, s := range []string{"", "-", "0", "-0.0e-0", "1.50e-007", "1e99999999999999999999", "٣", "\xff\x00", "1.e1"} {
		f.Add(s, "1")
	}
	f.Fuzz(func(t *testing.T, a, b string) {
		okA, okB := form.MatchString(a), form.MatchString(b)
		if decimal.Valid(a) != okA {
			t.Fatalf("2.1: Valid(%q) is not %v", a, okA)
		}
		if n, e := decimal.Compare(a, b); (e == api.OK) != (okA && okB) || e != api.OK && (n != 0 || e != api.ErrNumber) {
			t.Fatalf("2.3: Compare(%q, %q) = %d, %d", a, b, n, int(e))
		}
		if n, e := decimal.Nearest(a); (e == api.OK) != okA || e != api.OK && (n != 0 || e != api.ErrNumber) {
			t.Fatalf("2.4: Nearest(%q) = %08x, %d", a, n, int(e))
		}
		if n, ok := decimal.Whole(a); ok && !okA || !ok && n != 0 {
			t.Fatalf("2.2: Whole(%q) = %d, %v", a, n, ok)
		}
	})
}
