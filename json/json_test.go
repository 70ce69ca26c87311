package json_test

import (
	"bytes"
	"encoding/json/jsontext"
	"fmt"
	"io"
	"math"
	"math/rand"
	"slices"
	"strings"
	"sync"
	"testing"
	"unicode/utf8"
	"unsafe"

	"signet/api"
	"signet/json"
)

// Asking, with every answer held against the chapter's words, P4, and what follows from the answer.

func holdParse(t *testing.T, text string) {
	t.Helper()
	v, f := wantParse(text)
	got, code, at := json.Parse(text)
	if code != f.code || at != f.at || !slices.Equal(got, v) {
		t.Fatalf("3.1: Parse(%.90q) = %+v, %d at %d, want %+v, %d at %d", text, got, int(code), at, v, int(f.code), f.at)
	}
	if code == api.OK {
		holdBack(t, text, v)
	} else if got != nil {
		t.Fatalf("P4: Parse(%.90q) refuses, and answers %+v", text, got)
	}
}

// holdBack: 3.4 of a text that was taken.
func holdBack(t *testing.T, text string, v []api.Node) {
	t.Helper()
	short, code := json.Print(v)
	if !json.Shaped(v) || code != api.OK || len(short) > len(text) {
		t.Fatalf("3.4: Print of what %.90q says is %.90q, %d", text, short, int(code))
	}
	if again, code, at := json.Parse(short); code != api.OK || at != 0 || !slices.Equal(again, v) {
		t.Fatalf("3.4: Parse(%.90q) = %+v, %d at %d, want %+v", short, again, int(code), at, v)
	}
}

func holdFault(t *testing.T, text string, code api.Errno, at int) {
	t.Helper()
	if v, e, place := json.Parse(text); v != nil || e != code || place != at {
		t.Errorf("3.1: Parse(%.90q) = %+v, %d at %d, want %d at %d", text, v, int(e), place, int(code), at)
	}
	if len(text) < 1000 {
		holdParse(t, text)
	}
}

func parse(t *testing.T, text string) []api.Node {
	t.Helper()
	v, e, at := json.Parse(text)
	if e != api.OK || at != 0 {
		t.Fatalf("3.1: Parse(%.90q): %d at %d", text, int(e), at)
	}
	return v
}

// holdValue: Shaped, Print and there and back, of whatever nodes.
func holdValue(t *testing.T, v []api.Node) {
	t.Helper()
	shaped := wantShaped(v)
	if got := json.Shaped(v); got != shaped {
		t.Fatalf("3.3: Shaped(%+v) = %v", v, got)
	}
	text, code := json.Print(v)
	if !shaped {
		if text != "" || code != api.ErrJson {
			t.Fatalf("3.2: Print(%+v) = %q, %d, want ErrJson", v, text, int(code))
		}
		return
	}
	if want := wantPrint(v); text != want || code != api.OK {
		t.Fatalf("3.2: Print(%+v) = %q, %d, want %q", v, text, int(code), want)
	}
	if again, code, at := json.Parse(text); code != api.OK || at != 0 || !slices.Equal(again, v) {
		t.Fatalf("3.4: Parse(Print(%+v)) = %+v, %d at %d", v, again, int(code), at)
	}
	holdPlaces(t, v)
}

// holdPlaces: 3.3 of a value that is well shaped, at every place, and where no node stands.
func holdPlaces(t *testing.T, v []api.Node) {
	t.Helper()
	around, behind, _ := tree(v)
	for at := range v {
		var kids []int
		for i := range v {
			if i > 0 && around[i] == at {
				kids = append(kids, i)
			}
		}
		if got := json.Kids(v, at); !slices.Equal(got, kids) {
			t.Fatalf("3.3: Kids(%+v, %d) = %v, want %v", v, at, got, kids)
		}
		if got := json.Behind(v, at); got != behind[at] {
			t.Fatalf("3.3: Behind(%+v, %d) = %d, want %d", v, at, got, behind[at])
		}
		for _, n := range slices.Concat(v, []api.Node{{}, {Key: "no such name"}}) {
			want := -1
			if i := slices.IndexFunc(kids, func(k int) bool { return v[k].Key == n.Key }); i >= 0 && v[at].Kind == api.Object {
				want = kids[i]
			}
			if got := json.Member(v, at, n.Key); got != want {
				t.Fatalf("3.3: Member(%+v, %d, %q) = %d, want %d", v, at, n.Key, got, want)
			}
		}
	}
	holdNoPlaces(t, v)
}

func holdNoPlaces(t *testing.T, v []api.Node) {
	t.Helper()
	for _, at := range []int{-1, -2, math.MinInt, len(v), len(v) + 1, math.MaxInt} {
		for _, key := range []string{"", "a"} {
			if got := json.Member(v, at, key); got != -1 {
				t.Fatalf("3.3: Member of %d nodes at %d = %d", len(v), at, got)
			}
		}
		if kids, behind := json.Kids(v, at), json.Behind(v, at); len(kids) != 0 || behind != -1 {
			t.Fatalf("3.3: of %d nodes at %d: Kids %v, Behind %d", len(v), at, kids, behind)
		}
	}
}

func str(text string) api.Node { return api.Node{Kind: api.String, Text: text} }

// named: a node with a name.
func named(key string, n api.Node) api.Node {
	n.Key = key
	return n
}

const exampleText = ` {"a":[1,-0.5e3,"\u00e9"],"b":{}} `

func exampleValue() []api.Node {
	return []api.Node{
		{Kind: api.Object, Kids: 2},
		{Kind: api.List, Key: "a", Kids: 3},
		{Kind: api.Number, Text: "1", Whole: true, Int: 1},
		{Kind: api.Number, Text: "-0.5e3"},
		{Kind: api.String, Text: "\xc3\xa9"},
		{Kind: api.Object, Key: "b"},
	}
}

func TestExamples(t *testing.T) {
	if v := parse(t, exampleText); !slices.Equal(v, exampleValue()) {
		t.Errorf("3.1: Parse(%q) = %+v", exampleText, v)
	}
	if text, e := json.Print(exampleValue()); text != "{\"a\":[1,-0.5e3,\"\xc3\xa9\"],\"b\":{}}" || e != api.OK {
		t.Errorf("3.2: %q, %d", text, int(e))
	}
	v := exampleValue()
	if at, kids, behind := json.Member(v, 0, "b"), json.Kids(v, 1), json.Behind(v, 1); at != 5 || !slices.Equal(kids, []int{2, 3, 4}) || behind != 5 {
		t.Errorf("3.3: %d, %v, %d", at, kids, behind)
	}
	holdValue(t, v)
	deep := strings.Repeat("[", 32)
	for _, c := range []struct {
		text string
		code api.Errno
		at   int
	}{
		{"", api.ErrJson, 0}, {"01", api.ErrJson, 1}, {"[1,]", api.ErrJson, 3}, {`{"a":1,}`, api.ErrJson, 7}, {"nul", api.ErrJson, 3}, {"1 2", api.ErrJson, 2}, {`"a`, api.ErrJson, 2}, {"-", api.ErrJson, 1}, {"1.", api.ErrJson, 2},
		{`"\x"`, api.ErrEscape, 1}, {`["\u12g4"`, api.ErrEscape, 2}, {`"\ud800x"`, api.ErrEscape, 1}, {`"\ud800\u0041"`, api.ErrEscape, 1}, {`"\udc00"`, api.ErrEscape, 1}, {`"\ud800`, api.ErrJson, 7},
		{"\"\xc0", api.ErrUtf8, 1}, {"\"\xe2\x82\"", api.ErrUtf8, 1}, {"\xff", api.ErrJson, 0},
		{`{"a":1,"\u0061":{`, api.ErrTwice, 7},
		{deep + "[", api.ErrDeep, 32}, {deep + "}", api.ErrJson, 32},
	} {
		holdFault(t, c.text, c.code, c.at)
	}
	for text, n := range map[string]api.Node{
		"-0":                  {Whole: true},
		"9223372036854775807": {Whole: true, Int: 1<<63 - 1},
		"9223372036854775808": {},
		"1.0":                 {},
	} {
		n.Kind, n.Text = api.Number, text
		if v := parse(t, text); !slices.Equal(v, []api.Node{n}) {
			t.Errorf("3.1: Parse(%s) = %+v", text, v)
		}
	}
}

// alphabets: of each all short texts are gone through.
var alphabets = []struct {
	signs  []string
	head   string
	length int
}{
	{strings.Split(`[ ] { } , : "" "a" 1`, " "), "", 6},
	{[]string{"[", "]", "{", "}", ",", ":", `"`, "a", "1", " ", "n", "\xff"}, "", 5},
	{strings.Split("- + 0 1 9 . e E , ]", " "), "[", 6},
	{[]string{`"`, `\`, "/", "u", "d", "8", "C", "0", "n", "\n", "\xc3", "\xa9"}, `"`, 5},
	{[]string{`"`, `\`, "u", "d", "D", "7", "8", "b", "c", "0", "g"}, `"\`, 5},
	{[]string{`"`, `\`, "u", "d", "D", "7", "8", "c", "F", "0", "g"}, `"\ud8`, 5},
	{[]string{`"`, `\`, "u", "d", "D", "b", "c", "F", "0", "g"}, `"\uDBff\`, 5},
	{[]string{`"`, "a", "\x7f", "\x80", "\x8f", "\x90", "\x9f", "\xa0", "\xbf", "\xc1", "\xc2", "\xe0", "\xed", "\xf0", "\xf4", "\xf5"}, `"`, 4},
}

func TestEveryShortText(t *testing.T) {
	for _, a := range alphabets {
		var walk func(text string, left int)
		walk = func(text string, left int) {
			holdParse(t, text)
			for i := 0; i < len(a.signs) && left > 0; i++ {
				walk(text+a.signs[i], left-1)
			}
		}
		walk(a.head, a.length)
	}
}

// Every byte at every place of some texts, put in, put instead, and as the last one.
func TestEveryByteEverywhere(t *testing.T) {
	for _, text := range []string{
		exampleText, `null`, ` false`, `[true]`, `-12.50E-07`, `{"a":0e+1,"b":[]}`, `"\ud83d\ude00 \u00e9 \" \/ \b"`, "{\"\xc3\xa9\xe2\x82\xac\xf0\x9f\x98\x80\":[{ } , [ ] ]}",
	} {
		for at := range len(text) + 1 {
			holdParse(t, text[:at])
			for b := range 256 {
				head, sign := text[:at], string([]byte{byte(b)})
				holdParse(t, head+sign)
				holdParse(t, head+sign+text[at:])
				if at < len(text) {
					holdParse(t, head+sign+text[at+1:])
				}
			}
		}
	}
}

// Every kind of fault where another one is near, or the text ends.
func TestFaults(t *testing.T) {
	deep := strings.Repeat("[", 32)
	for _, c := range []struct {
		text string
		code api.Errno
		at   int
	}{
		{" \t\n\r", api.ErrJson, 4}, {"[", api.ErrJson, 1}, {"[1", api.ErrJson, 2}, {"[1,", api.ErrJson, 3}, {"[1 ", api.ErrJson, 3}, {"{", api.ErrJson, 1}, {`{"`, api.ErrJson, 2}, {`{"a"`, api.ErrJson, 4}, {`{"a":`, api.ErrJson, 5}, {`{"a":1`, api.ErrJson, 6}, {`{"a":1,`, api.ErrJson, 7}, {`"`, api.ErrJson, 1}, {"t", api.ErrJson, 1}, {"fals", api.ErrJson, 4}, {"1e", api.ErrJson, 2}, {"1e-", api.ErrJson, 3}, {"1E+", api.ErrJson, 3},
		{"nulL", api.ErrJson, 3}, {"nulll", api.ErrJson, 4}, {"None", api.ErrJson, 0}, {"NaN", api.ErrJson, 0}, {"Infinity", api.ErrJson, 0}, {"-Infinity", api.ErrJson, 1}, {"True", api.ErrJson, 0}, {"truefalse", api.ErrJson, 4}, {"--1", api.ErrJson, 1}, {"-01", api.ErrJson, 2}, {"1.2.3", api.ErrJson, 3}, {"1e5e", api.ErrJson, 3}, {"1e5.0", api.ErrJson, 3}, {"0x1", api.ErrJson, 1}, {"1_0", api.ErrJson, 1}, {"1,", api.ErrJson, 1}, {"[]]", api.ErrJson, 2}, {"{}{}", api.ErrJson, 2}, {"[]//", api.ErrJson, 2}, {"[1 2]", api.ErrJson, 3}, {"[,1]", api.ErrJson, 1}, {"[1,,2]", api.ErrJson, 3}, {`{,}`, api.ErrJson, 1}, {`{"a":1,,`, api.ErrJson, 7}, {`{"a",`, api.ErrJson, 4}, {`{"a"::`, api.ErrJson, 5}, {`{1:1}`, api.ErrJson, 1}, {`{null:1}`, api.ErrJson, 1}, {`[1:2]`, api.ErrJson, 2}, {`{"a":1:`, api.ErrJson, 6}, {"[)", api.ErrJson, 1}, {"[}", api.ErrJson, 1}, {"{]", api.ErrJson, 1}, {"\x00", api.ErrJson, 0}, {"1\x00", api.ErrJson, 1}, {"\xef\xbb\xbfnull", api.ErrJson, 0}, {"[\xc2\xa01]", api.ErrJson, 1}, {"\"\"\"", api.ErrJson, 2}, {"\"a\x00", api.ErrJson, 2}, {"\"\x1f\xff\\x", api.ErrJson, 1},
		{`"\`, api.ErrJson, 2}, {`"\u`, api.ErrJson, 3}, {`"\u0`, api.ErrJson, 4}, {`"\u000`, api.ErrJson, 6}, {`"\u0000`, api.ErrJson, 7}, {`"\ud`, api.ErrJson, 4}, {`"\uD8`, api.ErrJson, 5}, {`"\ud800\`, api.ErrJson, 8}, {`"\ud800\u`, api.ErrJson, 9}, {`"\ud800\ud`, api.ErrJson, 10}, {`"\ud800\udc`, api.ErrJson, 11}, {`"\ud800\udc0`, api.ErrJson, 12}, {`"\ud800\udc00`, api.ErrJson, 13},
		{`"\udc`, api.ErrEscape, 1}, {`"\uDF`, api.ErrEscape, 1}, {`"\ud800\u0`, api.ErrEscape, 1}, {`"\ud800\ud8`, api.ErrEscape, 1}, {`"\ud800\udb`, api.ErrEscape, 1}, {`"\ud800"`, api.ErrEscape, 1}, {`"\ud800 \udc00"`, api.ErrEscape, 1}, {`"\udc00\ud800"`, api.ErrEscape, 1}, {`"\ud800\n"`, api.ErrEscape, 1}, {`"\ud800\ue000"`, api.ErrEscape, 1}, {`"\ud800\udc0g"`, api.ErrEscape, 1}, {"\"\\ud800\xff", api.ErrEscape, 1}, {"\"\\\xff", api.ErrEscape, 1}, {"\"\\\n", api.ErrEscape, 1}, {"\"\\u12\x00", api.ErrEscape, 1}, {`"\u-001"`, api.ErrEscape, 1}, {`"\u+001"`, api.ErrEscape, 1}, {`"\u 001"`, api.ErrEscape, 1}, {`"\U0041"`, api.ErrEscape, 1}, {`"\0"`, api.ErrEscape, 1}, {`"\'"`, api.ErrEscape, 1}, {`"\v"`, api.ErrEscape, 1}, {`"\a"`, api.ErrEscape, 1}, {`"ab\\\q"`, api.ErrEscape, 5}, {`{"\q`, api.ErrEscape, 2}, {`\u0031`, api.ErrJson, 0}, {`"\ud83d\ude00\ud83d"`, api.ErrEscape, 13},
		{"\"\xc3", api.ErrJson, 2}, {"\"\xe2\x82", api.ErrJson, 3}, {"\"\xf0\x9f\x98", api.ErrJson, 4}, {"\"\xc3\"", api.ErrUtf8, 1}, {"\"\xc3\\", api.ErrUtf8, 1}, {"\"\xc3\n", api.ErrUtf8, 1}, {"\"\xe0\x9f", api.ErrUtf8, 1}, {"\"\xed\xa0", api.ErrUtf8, 1}, {"\"\xf0\x8f", api.ErrUtf8, 1}, {"\"\xf4\x90", api.ErrUtf8, 1}, {"\"\xf5", api.ErrUtf8, 1}, {"\"\xc1", api.ErrUtf8, 1}, {"\"\x80", api.ErrUtf8, 1}, {"\"ab\xff", api.ErrUtf8, 3}, {"\"\xf0\x9f\x98(", api.ErrUtf8, 1}, {"{\"a\xe2(", api.ErrUtf8, 3}, {"[1,\xe2", api.ErrJson, 3},
		{`{"a":1,"a"`, api.ErrTwice, 7}, {`{"a":1,"a`, api.ErrJson, 9}, {`{"a":1,"a\q"`, api.ErrEscape, 9}, {"{\"a\":1,\"a\xff\"", api.ErrUtf8, 9}, {`{"a":1, "a":`, api.ErrTwice, 8}, {`{"a":1,"b":2,"b","a"`, api.ErrTwice, 13}, {`{"":0,""`, api.ErrTwice, 6}, {`[{"a":{"a":1},"a"`, api.ErrTwice, 14}, {`{"a":1,"a"x`, api.ErrTwice, 7},
		{deep + "{", api.ErrDeep, 32}, {deep + "[\xff", api.ErrDeep, 32}, {deep + "[]", api.ErrDeep, 32}, {deep + `{"a":1,"a"`, api.ErrDeep, 32}, {deep + "1[", api.ErrJson, 33}, {deep + `"[`, api.ErrJson, 34}, {deep + "],[[", api.ErrDeep, 35}, {deep[1:] + "{[", api.ErrJson, 32}, {deep[1:] + `{"a":[`, api.ErrDeep, 36}, {deep[1:] + "\xff" + deep, api.ErrJson, 31},
	} {
		holdFault(t, c.text, c.code, c.at)
	}
}

func TestMaxKeys(t *testing.T) {
	fill := func(n int) string { return strings.Repeat(" ", n) }
	for _, text := range []string{"1", "[]", `"` + strings.Repeat("a", 1000) + `"`, `{"a":[null]}`} {
		room := api.MaxKeys - len(text)
		for ahead := range 3 {
			if got := parse(t, fill(ahead)+text+fill(room-ahead)); !slices.Equal(got, parse(t, text)) {
				t.Errorf("3.6: %+v", got)
			}
			holdFault(t, fill(ahead)+text+fill(room-ahead+1), api.ErrLarge, 0)
		}
	}
	holdFault(t, fill(api.MaxKeys), api.ErrJson, api.MaxKeys)
	holdFault(t, fill(api.MaxKeys+1), api.ErrLarge, 0)
	holdFault(t, "\xff"+fill(api.MaxKeys-1), api.ErrJson, 0)
	holdFault(t, "\xff"+fill(api.MaxKeys), api.ErrLarge, 0)
	long := `"` + strings.Repeat("a", api.MaxKeys-2) + `"`
	if v := parse(t, long); len(v) != 1 || v[0].Text != long[1:len(long)-1] {
		t.Error("3.1: a string as long as may be is not read")
	}
	number := strings.Repeat("9", api.MaxKeys)
	if v := parse(t, number); !slices.Equal(v, []api.Node{{Kind: api.Number, Text: number}}) {
		t.Error("3.1: a number as long as may be is not read")
	}
	list := "[" + strings.Repeat("1,", api.MaxKeys/2-1) + "1"
	holdFault(t, list, api.ErrJson, api.MaxKeys)
	list = "[1" + strings.Repeat(",1", api.MaxKeys/2-2) + "]"
	v := parse(t, list)
	if len(v) != api.MaxKeys/2 || v[0].Kids != len(v)-1 || len(json.Kids(v, 0)) != v[0].Kids || json.Behind(v, 0) != len(v) {
		t.Errorf("3.1: a list of %d nodes", len(v))
	}
	if text, e := json.Print(v); text != list || e != api.OK {
		t.Errorf("3.2: %d bytes, %d", len(text), int(e))
	}
}

// A great object, all of whose names differ; then one that stands twice, at either end.
func TestManyNames(t *testing.T) {
	text := strings.Builder{}
	n := 0
	for ; text.Len() < api.MaxKeys-40; n++ {
		fmt.Fprintf(&text, `,"%x":0`, n)
	}
	members := text.String()[1:]
	v := parse(t, "{"+members+"}")
	if v[0].Kids != n || len(v) != n+1 || !json.Shaped(v) {
		t.Fatalf("3.1: %d members of %d", v[0].Kids, n)
	}
	for _, i := range []int{0, 1, n / 2, n - 1} {
		if got := json.Member(v, 0, fmt.Sprintf("%x", i)); got != i+1 {
			t.Errorf("3.3: Member %d at %d", i, got)
		}
		again := fmt.Sprintf(`,"%x"`, i)
		holdFault(t, "{"+members+again, api.ErrTwice, len(members)+2)
		twice := slices.Clone(v)
		twice[i+1].Key = fmt.Sprintf("%x", (i+1)%n)
		if json.Shaped(twice) {
			t.Errorf("3.3: Shaped, with the name %x twice", (i+1)%n)
		}
	}
}

func TestMaxDepth(t *testing.T) {
	r := rand.New(rand.NewSource(1))
	for range 200 {
		open, closing := "", ""
		for depth := range 33 {
			if depth == 32 {
				holdParse(t, open+`"x"`+closing)
				holdFault(t, open+"[]"+closing, api.ErrDeep, len(open))
				holdFault(t, open+"{}"+closing, api.ErrDeep, len(open))
			} else {
				holdParse(t, open+"[]"+closing)
				holdParse(t, open+"{}"+closing)
			}
			if r.Intn(2) == 0 {
				open, closing = open+"[1,", ",2]"+closing
			} else {
				open, closing = open+`{"a":0,"b":`, `,"c":1}`+closing
			}
		}
	}
	for _, n := range []int{31, 32, 33, 34, 5000} {
		for _, kind := range []api.Kind{api.List, api.Object} {
			v := make([]api.Node, n)
			for i := range v {
				v[i] = api.Node{Kind: kind, Kids: 1}
			}
			v[n-1].Kids = 0
			if got := json.Shaped(v); got != (n <= 32) {
				t.Errorf("3.3: Shaped of %d of kind %d, one in the other: %v", n, kind, got)
			}
			if n < 100 {
				holdValue(t, v)
				holdValue(t, append(slices.Clone(v[:n-1]), api.Node{Kind: kind, Kids: 1}, api.Node{Kind: api.Null}))
			}
		}
	}
	// What is closed does not count.
	wide := "[" + strings.Repeat("[[]],", 1000) + "{}]"
	if v := parse(t, wide); v[0].Kids != 1001 || !json.Shaped(v) {
		t.Errorf("3.1: %d values", v[0].Kids)
	}
}

func TestNames(t *testing.T) {
	spellings := []string{"\U0001f600/", `\ud83d\ude00/`, `\uD83D\uDE00\/`, "\U0001f600\\u002f", `\ud83D\uDe00\u002F`}
	for _, a := range spellings {
		for _, b := range spellings {
			text := `{"` + a + `":0, "` + b + `"`
			holdFault(t, text, api.ErrTwice, len(a)+7)
			holdFault(t, text+`:1}`, api.ErrTwice, len(a)+7)
		}
	}
	for _, text := range []string{
		`{"a":1,"A":2}`, `{"a":1,"a ":2,"":3}`, `{"a":1,"\u0000a":2,"a\u0000":3}`, "{\"\u00e9\":1,\"e\u0301\":2}", `{"a":{"a":{"a":1}}}`, `[{"a":1},{"a":2}]`, `{"b":{"a":1},"c":{"a":1},"a":[{"a":2}]}`, `{"a":"a","b":"a"}`, `{"\u0000":0,"\u0001":0}`,
	} {
		holdParse(t, text)
		parse(t, text)
	}
	holdFault(t, `{"b":{"a":1},"c":{"a":1},"b"`, api.ErrTwice, 25)
	holdFault(t, `{"b":{"a":1},"c":{"a":1,"a"`, api.ErrTwice, 24)
	holdFault(t, `{"x":[{"x":1},{"x":2}],"x"`, api.ErrTwice, 23)
}

// Every code of four digits, in every way of writing them, alone and as a half; the halves' edges by each other.
func TestEscapes(t *testing.T) {
	for code := range 1 << 16 {
		small, large := fmt.Sprintf(`"\u%04x"`, code), fmt.Sprintf(`["\u%04X"]`, code)
		if low := code >= 0xdc00 && code <= 0xdfff; low || code >= 0xd800 && code < 0xdc00 {
			for _, f := range []struct {
				text string
				at   int
			}{{small, 1}, {large, 2}, {`"\u0041` + small[1:], 7}} {
				if v, e, at := json.Parse(f.text); v != nil || e != api.ErrEscape || at != f.at {
					t.Fatalf("3.1: Parse(%s): %d at %d", f.text, int(e), at)
				}
			}
			high, behind := `"\ud800`+small[1:], small[:7]+`\udfff"`
			if v, e, at := json.Parse(high); low && (e != api.OK || v[0].Text != string(rune(0x10000+code-0xdc00))) || !low && (e != api.ErrEscape || at != 1) {
				t.Fatalf("3.1: Parse(%s) = %+v, %d at %d", high, v, int(e), at)
			}
			if v, e, at := json.Parse(behind); !low && (e != api.OK || v[0].Text != string(rune(0x103ff+(code-0xd800)<<10))) || low && (e != api.ErrEscape || at != 1) {
				t.Fatalf("3.1: Parse(%s) = %+v, %d at %d", behind, v, int(e), at)
			}
			continue
		}
		if v := parse(t, small); v[0].Text != string(rune(code)) || parse(t, large)[1].Text != v[0].Text {
			t.Fatalf("3.1: Parse(%s) = %q", small, v[0].Text)
		}
	}
	edges := strings.Fields("0000 d7ff d800 d8ff dbff DBFF dc00 dcff dfff DFFF e000 ffff FFFF dbfg dcfg")
	for _, a := range edges {
		for _, b := range edges {
			text := `{"\u` + a + `\u` + b + `":1}`
			for cut := range len(text) + 1 {
				holdParse(t, text[:cut])
			}
		}
	}
	for c := rune(0x10000); c <= utf8.MaxRune; c += 97 {
		high, low := 0xd800+(c-0x10000)>>10, 0xdc00+(c-0x10000)&0x3ff
		if v := parse(t, fmt.Sprintf(`"\u%04x\u%04X"`, high, low)); v[0].Text != string(c) {
			t.Fatalf("3.1: the pair of %x says %q", c, v[0].Text)
		}
	}
}

func TestBytesBelow32(t *testing.T) {
	for b := range byte(32) {
		is, escaped := string([]byte{b}), fmt.Sprintf(`\u%04x`, b)
		holdFault(t, `"`+is+`"`, api.ErrJson, 1)
		holdFault(t, `"ab`+is, api.ErrJson, 3)
		holdFault(t, `{"a`+is+`":1}`, api.ErrJson, 3)
		holdFault(t, `"\`+is+`"`, api.ErrEscape, 1)
		for _, text := range []string{`"` + escaped + `"`, `"\u` + strings.ToUpper(escaped[2:]) + `"`, `{"` + escaped + `":1}`} {
			holdParse(t, text)
		}
		if v := parse(t, `{"`+escaped+`":"x`+escaped+`"}`); v[1].Key != is || v[1].Text != "x"+is {
			t.Errorf("3.1: %+v", v)
		}
		holdValue(t, []api.Node{{Kind: api.Object, Kids: 1}, named(is, str(is+"a"+is))})
	}
	for letter, b := range map[string]string{"b": "\x08", "f": "\x0c", "n": "\x0a", "r": "\x0d", "t": "\x09", `"`: "\x22", `\`: "\x5c", "/": "\x2f"} {
		if v := parse(t, `["\`+letter+`"]`); v[1].Text != b {
			t.Errorf(`3.1: \%s says %q`, letter, v[1].Text)
		}
	}
}

// Sequences of every length: all first and second bytes, with edges behind them, cut everywhere; and every code point as it is.
func TestUtf8(t *testing.T) {
	edges := []string{"", "\x00", `"`, `\`, "a", "\x7f", "\x80", "\x8f", "\x90", "\x9f", "\xa0", "\xbf", "\xc0", "\xff"}
	for first := 0x7f; first < 256; first++ {
		for second := range 256 {
			head := string([]byte{'"', byte(first), byte(second)})
			for _, third := range edges {
				holdParse(t, head+third)
				if third >= "\x80" && first >= 0xe0 {
					for _, fourth := range edges {
						holdParse(t, head+third+fourth)
						holdParse(t, head+third+fourth+`x"`)
					}
				}
			}
		}
	}
	for first := rune(0); first <= utf8.MaxRune; first += 1 << 15 {
		all := strings.Builder{}
		for c := first; c < first+1<<15; c++ {
			if c >= ' ' && c != '"' && c != '\\' && utf8.ValidRune(c) {
				all.WriteRune(c)
			}
		}
		text := `"` + all.String() + `"`
		v := parse(t, text)
		if short, e := json.Print(v); v[0].Text != all.String() || short != text || e != api.OK {
			t.Fatalf("3.1: code points from %x on are not read and written as they are", first)
		}
	}
}

func TestNumbers(t *testing.T) {
	for _, text := range strings.Fields("0 -0 1 -1 9 10 -10 9223372036854775806 9223372036854775807 9223372036854775808 -9223372036854775807 -9223372036854775808 -9223372036854775809 18446744073709551616 10000000000000000000000 0.0 -0.0 1.0 1.50 0e0 0E0 0e+0 0e-0 1e3 1E+3 1e-3 1e007 -1.5e+10 9223372036854775807.0 9223372036854775807e0 0.000 1e99999999999999999999 -1e-99999999999999999999") {
		for _, c := range []struct{ head, tail string }{{"", ""}, {" ", "\n"}, {"[", "]"}, {"[0,", ",0]"}, {`{"a":`, "}"}, {`{"a":`, " }"}} {
			holdParse(t, c.head+text+c.tail)
		}
		if v := parse(t, text); v[0].Text != text {
			t.Errorf("3.1: Parse(%s) = %+v", text, v)
		}
		holdValue(t, []api.Node{numberOf(text)})
	}
	for text, n := range map[string]int64{"-0": 0, "9223372036854775807": math.MaxInt64, "-9223372036854775808": math.MinInt64, "17": 17} {
		if v := parse(t, text); !v[0].Whole || v[0].Int != n {
			t.Errorf("3.1: Parse(%s) = %+v", text, v)
		}
	}
	for _, text := range strings.Fields("9223372036854775808 -9223372036854775809 1.0 1e3 0e0 -0.0") {
		if v := parse(t, text); v[0].Whole || v[0].Int != 0 {
			t.Errorf("3.1: Parse(%s) = %+v", text, v)
		}
	}
}

// words of texts, between which blanks may stand.
var wordsOfTexts = [][]string{
	{"1"}, {"null"}, {`"a b"`}, {"[", "]"}, {"{", "}"}, {"[", "[", "]", "]"},
	{"[", "1", ",", "true", ",", `"x"`, ",", "{", "}", "]"},
	{"{", `"a"`, ":", "-0.5e3", ",", `"b c"`, ":", "[", "]", ",", `""`, ":", "{", `"a"`, ":", "false", "}", "}"},
}

func TestBlanks(t *testing.T) {
	for _, words := range wordsOfTexts {
		plain := parse(t, strings.Join(words, ""))
		for at := range len(words) + 1 {
			head, tail := strings.Join(words[:at], ""), strings.Join(words[at:], "")
			for _, blanks := range []string{" ", "\t", "\n", "\r", " \t\n\r", "\r\n\r\n  ", strings.Repeat(" ", 100)} {
				if v := parse(t, head+blanks+tail); !slices.Equal(v, plain) {
					t.Errorf("3.6: %q is not %+v", head+blanks+tail, v)
				}
				holdParse(t, head+blanks+tail)
				all := blanks + strings.Join(words, blanks) + blanks
				if v := parse(t, all); !slices.Equal(v, plain) {
					t.Errorf("3.6: %q is not %+v", all, v)
				}
			}
			for _, no := range []string{"\x00", "\x08", "\x0b", "\x0c", "\x0e", "\x1f", "\x7f", "\x85", "\xc2\xa0", "\xe2\x80\xa8", "\xef\xbb\xbf", "/**/", "//\n", "#\n"} {
				holdFault(t, head+no+tail, api.ErrJson, len(head))
				holdFault(t, head+" "+no, api.ErrJson, len(head)+1)
			}
		}
	}
	// Within a word they can't stand.
	for text, at := range map[string]int{"nu ll": 2, "1 .5": 2, "1. 5": 2, "- 1": 1, "1 e5": 2, "1e 5": 2, "1e+ 5": 3, "1 0": 2} {
		holdFault(t, text, api.ErrJson, at)
	}
}

// 3.6 of what is refused: blanks move the place of the fault, and nothing else.
func TestBlanksBeforeFaults(t *testing.T) {
	words := strings.Split("[ ] { } : , 1 \"a\" \"b\" \"\\u0061\" \"\\q\"", " ")
	var walk func(chosen []string)
	walk = func(chosen []string) {
		plain, spaced, places := "", "", map[int]int{}
		for _, w := range chosen {
			spaced += " \n"
			for i := range w {
				places[len(plain)+i] = len(spaced) + i
			}
			plain, spaced = plain+w, spaced+w
		}
		places[len(plain)] = len(spaced)
		v, e, at := json.Parse(plain)
		w, f, place := json.Parse(spaced)
		if e == api.OK {
			places[0] = 0
		}
		if e != f || !slices.Equal(v, w) || places[at] != place {
			t.Fatalf("3.6: Parse(%q) = %d at %d, Parse(%q) = %d at %d", plain, int(e), at, spaced, int(f), place)
		}
		for i := 0; i < len(words) && len(chosen) < 5; i++ {
			if one := words[i] == "1" && len(chosen) > 0 && chosen[len(chosen)-1] == "1"; !one {
				walk(append(slices.Clone(chosen), words[i]))
			}
		}
	}
	walk(nil)
}

// respell: the value in another spelling.
func respell(r *rand.Rand, v []api.Node) string {
	text, _ := json.Print(v)
	out := strings.Builder{}
	blanks := func() {
		for r.Intn(3) == 0 {
			out.WriteByte(" \t\n\r"[r.Intn(4)])
		}
	}
	blanks()
	for at := 0; at < len(text); {
		s := slow{text: text, at: at}
		switch {
		case text[at] == '"':
			s.str()
			out.WriteString(respellString(r, text[at+1:s.at-1]))
		case strings.IndexByte("[]{}:,", text[at]) >= 0:
			out.WriteByte(text[at])
			s.at++
		default:
			for s.at < len(text) && strings.IndexByte("]},", text[s.at]) < 0 {
				s.at++
			}
			out.WriteString(text[at:s.at])
		}
		at = s.at
		blanks()
	}
	return out.String()
}

func respellString(r *rand.Rand, chars string) string {
	s, out := slow{text: chars}, `"`
	for s.at < len(chars) {
		from := s.at
		c, _ := utf8.DecodeRuneInString(s.char())
		form := `\u%04x`
		if r.Intn(2) == 0 {
			form = `\u%04X`
		}
		switch {
		case r.Intn(2) == 0:
			out += chars[from:s.at]
		case c == '/':
			out += `\/`
		case c > 0xffff:
			out += fmt.Sprintf(form+form, 0xd800+(c-0x10000)>>10, 0xdc00+(c-0x10000)&0x3ff)
		default:
			out += fmt.Sprintf(form, c)
		}
	}
	return out + `"`
}

func TestSpelling(t *testing.T) {
	r := rand.New(rand.NewSource(6))
	for range 4000 {
		v := randomValue(r, 0)
		text := respell(r, v)
		if got, e, at := json.Parse(text); e != api.OK || at != 0 || !slices.Equal(got, v) {
			t.Fatalf("3.6: Parse(%q) = %+v, %d at %d, want %+v", text, got, int(e), at, v)
		}
		holdParse(t, text)
	}
}

var someTexts = []string{"", "a", "b", "aa", "\u00e9", "/", `"`, `\`, "\x00", "\x1f", "\n\t\r\b\f", "\x7f", "\u2028", "\ufffd", "\ufeff", "\uffff", "\U0001f600", "\U0010ffff", `\u0041`, "]", "null"}
var someNumbers = strings.Fields("0 -0 1 -1 17 1.5 1e3 -0.5E-7 9223372036854775807 -9223372036854775808 9223372036854775808 1e999")

func randomText(r *rand.Rand) string {
	text := ""
	for r.Intn(3) > 0 {
		text += someTexts[r.Intn(len(someTexts))]
	}
	return text
}

// randomValue: a well shaped value.
func randomValue(r *rand.Rand, depth int) []api.Node {
	n := api.Node{Kind: api.Kind(1 + r.Intn(7))}
	switch n.Kind {
	case api.Number:
		return []api.Node{numberOf(someNumbers[r.Intn(len(someNumbers))])}
	case api.String:
		n.Text = randomText(r)
	case api.List, api.Object:
		if depth >= 4 {
			break
		}
		v, met := []api.Node{n}, map[string]int{}
		for range r.Intn(4) {
			kid := randomValue(r, depth+1)
			if n.Kind == api.Object {
				kid[0].Key = randomText(r)
			}
			if met[kid[0].Key] > 0 && n.Kind == api.Object {
				continue
			}
			met[kid[0].Key]++
			v[0].Kids++
			v = append(v, kid...)
		}
		return v
	}
	return []api.Node{n}
}

// spoil: the value with something changed, so that it often is none.
func spoil(r *rand.Rand, v []api.Node) []api.Node {
	v = slices.Clone(v)
	i := r.Intn(len(v))
	n := &v[i]
	switch r.Intn(9) {
	case 0:
		n.Kind = api.Kind(r.Intn(10) - 1)
	case 1:
		n.Key = append(someTexts, "\xff", "\xc3")[r.Intn(len(someTexts)+2)]
	case 2:
		n.Text = append(someTexts, "\xff", "01", "1", "\xed\xa0\x80")[r.Intn(len(someTexts)+4)]
	case 3:
		n.Whole = !n.Whole
	case 4:
		n.Int += int64(r.Intn(3) - 1)
	case 5:
		n.Kids += []int{-1, 1, 2, math.MinInt, math.MaxInt, 1 << 62}[r.Intn(6)]
	case 6:
		v = slices.Delete(v, i, i+1)
	case 7:
		v = slices.Insert(v, i, v[r.Intn(len(v))])
	case 8:
		j := r.Intn(len(v))
		v[i].Key = v[j].Key
	}
	return v
}

// P1 and P2 of nodes of which nothing else is promised.
func holdCalm(t *testing.T, v []api.Node) {
	t.Helper()
	before := slices.Clone(v)
	for at := -1; at <= len(v); at++ {
		json.Member(v, at, "a")
		json.Kids(v, at)
		json.Behind(v, at)
	}
	if !slices.Equal(v, before) {
		t.Fatalf("P2: %+v has become %+v", before, v)
	}
}

func TestRandomValues(t *testing.T) {
	r := rand.New(rand.NewSource(3))
	shaped := 0
	for range 20000 {
		v := randomValue(r, 0)
		holdValue(t, v)
		for range 4 {
			if len(v) == 0 {
				break
			}
			v = spoil(r, v)
			holdValue(t, v)
			holdCalm(t, v)
			if wantShaped(v) {
				shaped++
			}
		}
	}
	if shaped < 1000 {
		t.Errorf("only %d of those that were changed are well shaped", shaped)
	}
}

// Every way of not being well shaped that the chapter lists, next to what is.
func TestShapes(t *testing.T) {
	one := func(n api.Node) []api.Node { return []api.Node{n} }
	in := func(kind api.Kind, kids ...api.Node) []api.Node {
		return append([]api.Node{{Kind: kind, Kids: len(kids)}}, kids...)
	}
	null, number := api.Node{Kind: api.Null}, numberOf("1")
	for _, c := range []struct {
		v    []api.Node
		want bool
	}{
		{nil, false}, {[]api.Node{}, false}, {one(null), true}, {[]api.Node{null, null}, false}, {append(in(api.List, null), null), false},
		{one(api.Node{}), false}, {one(api.Node{Kind: 8}), false}, {one(api.Node{Kind: -1}), false}, {one(api.Node{Kind: math.MaxInt}), false}, {one(api.Node{Kind: math.MinInt}), false}, {one(api.Node{Kind: api.False}), true}, {one(api.Node{Kind: api.True}), true},
		{one(api.Node{Kind: api.List}), true}, {one(api.Node{Kind: api.Object}), true}, {one(api.Node{Kind: api.List, Kids: 1}), false}, {one(api.Node{Kind: api.List, Kids: -1}), false}, {one(api.Node{Kind: api.Object, Kids: -1}), false}, {one(api.Node{Kind: api.List, Kids: math.MaxInt}), false}, {one(api.Node{Kind: api.Object, Kids: math.MinInt}), false}, {in(api.List, api.Node{Kind: api.List, Kids: -1}, null), false}, {[]api.Node{{Kind: api.List, Kids: 2}, null}, false}, {[]api.Node{{Kind: api.List, Kids: 1}, null, null}, false}, {[]api.Node{{Kind: api.List}, null}, false}, {[]api.Node{{Kind: api.List, Kids: 2}, {Kind: api.List, Kids: math.MaxInt}, null}, false},
		{one(api.Node{Kind: api.Null, Kids: 1}), false}, {[]api.Node{{Kind: api.Null, Kids: 1}, null}, false}, {[]api.Node{{Kind: api.True, Kids: -1}}, false}, {[]api.Node{{Kind: api.String, Kids: 1}, null}, false}, {[]api.Node{{Kind: api.Number, Text: "1", Whole: true, Int: 1, Kids: 1}, null}, false},
		{one(named("a", null)), false}, {one(named("a", number)), false}, {in(api.List, named("a", null)), false}, {in(api.List, null, named("a", str("a"))), false}, {in(api.Object, null), true}, {in(api.Object, named("a", null)), true}, {in(api.Object, named("\xff", null)), false}, {in(api.Object, named("a", null), named("a", number)), false}, {in(api.Object, null, named("a", null), null), false}, {in(api.Object, named("a", null), named("A", null)), true}, {[]api.Node{{Kind: api.Object, Kids: 1}, {Kind: api.Object, Key: "a", Kids: 1}, named("a", null)}, true}, {[]api.Node{{Kind: api.List, Key: "a"}}, false}, {[]api.Node{{Kind: api.Object, Kids: 1}, {Kind: api.List, Key: "a", Kids: 1}, named("b", null)}, false},
		{one(api.Node{Kind: api.Null, Text: "x"}), false}, {one(api.Node{Kind: api.False, Text: "false"}), false}, {one(api.Node{Kind: api.List, Text: "x"}), false}, {one(api.Node{Kind: api.Object, Text: "x"}), false},
		{one(number), true}, {one(api.Node{Kind: api.Number}), false}, {one(api.Node{Kind: api.Number, Text: "01"}), false}, {one(api.Node{Kind: api.Number, Text: "01", Whole: true, Int: 1}), false}, {one(api.Node{Kind: api.Number, Text: " 1"}), false}, {one(api.Node{Kind: api.Number, Text: "1"}), false}, {one(api.Node{Kind: api.Number, Text: "1", Int: 1}), false}, {one(api.Node{Kind: api.Number, Text: "1", Whole: true}), false}, {one(api.Node{Kind: api.Number, Text: "0", Whole: true}), true}, {one(api.Node{Kind: api.Number, Text: "1.0"}), true}, {one(api.Node{Kind: api.Number, Text: "1.0", Whole: true, Int: 1}), false}, {one(api.Node{Kind: api.Number, Text: "1.0", Int: 1}), false}, {one(api.Node{Kind: api.Number, Text: "9223372036854775808", Whole: true}), false}, {one(api.Node{Kind: api.Number, Text: "9223372036854775808"}), true},
		{one(str("a")), true}, {one(str("")), true}, {one(str("\xff")), false}, {one(str("a\xe2\x82")), false}, {one(str("\xed\xa0\x80")), false}, {one(str("\ufffd")), true},
		{one(api.Node{Kind: api.Null, Whole: true}), false}, {one(api.Node{Kind: api.True, Int: 1}), false}, {one(api.Node{Kind: api.String, Whole: true}), false}, {one(api.Node{Kind: api.String, Text: "1", Int: 1}), false}, {one(api.Node{Kind: api.List, Whole: true}), false}, {one(api.Node{Kind: api.Object, Int: -1}), false},
	} {
		if got := json.Shaped(c.v); got != c.want {
			t.Errorf("3.3: Shaped(%+v) = %v", c.v, got)
		}
		holdValue(t, c.v)
		holdCalm(t, c.v)
		holdNoPlaces(t, c.v)
	}
}

// A list's name is empty, and so may a member's be: only an object has one.
func TestMemberOfNoObject(t *testing.T) {
	v := parse(t, `{"":[1,{"":2}],"a":"a"}`)
	for at, want := range []int{1, -1, -1, 4, -1, -1} {
		if got := json.Member(v, at, ""); got != want {
			t.Errorf("3.3: Member(%d) = %d, want %d", at, got, want)
		}
	}
	if got := json.Member(v, 0, "a"); got != 5 {
		t.Errorf("3.3: Member(a) = %d", got)
	}
	holdPlaces(t, v)
}

func TestPrintLarge(t *testing.T) {
	most := api.MaxKeys
	a := func(n int) string { return strings.Repeat("a", n) }
	for _, at := range [][]api.Node{
		{str(a(most - 2))},
		{str(strings.Repeat("\x01", 43690) + "aa")},
		{str(strings.Repeat(`"`, most/2-1))},
		{str(strings.Repeat("\n", most/2-2) + "aa")},
		{str(strings.Repeat("\u00e9", most/2-1))},
		{numberOf(strings.Repeat("9", most))},
		{{Kind: api.List, Kids: 2}, {Kind: api.Null}, str(a(most - 9))},
		{{Kind: api.List, Kids: 2}, str(a(most - 9)), {Kind: api.True}},
		{{Kind: api.Object, Kids: 1}, named(a(most-6), numberOf("1"))},
		{{Kind: api.Object, Kids: 1}, named(a(most-10), api.Node{Kind: api.False})},
		{{Kind: api.Object, Kids: 2}, named(a(most-13), numberOf("1")), named("b", api.Node{Kind: api.List})},
	} {
		i := slices.IndexFunc(at, func(n api.Node) bool { return len(n.Text)+len(n.Key) > 1000 })
		if text, e := json.Print(at); e != api.OK || len(text) != most {
			t.Errorf("3.2: %d bytes, %d, of %+.60v", len(text), int(e), at)
		}
		past := slices.Clone(at)
		if n := &past[i]; n.Key != "" {
			n.Key += "1"
		} else {
			n.Text += "1"
		}
		if text, e := json.Print(past); text != "" || e != api.ErrLarge || !json.Shaped(past) {
			t.Errorf("3.2: one past it %d bytes, %d", len(text), int(e))
		}
		past = append(past, api.Node{Kind: api.Null})
		if text, e := json.Print(past); text != "" || e != api.ErrJson {
			t.Errorf("3.2: not well shaped, and too large: %d bytes, %d", len(text), int(e))
		}
	}
	wide := make([]api.Node, 1<<19)
	for i := range wide {
		wide[i] = numberOf("1")
	}
	for _, c := range []struct {
		kids int
		code api.Errno
	}{{most/2 - 1, api.OK}, {most / 2, api.ErrLarge}, {len(wide) - 1, api.ErrLarge}} {
		wide[0] = api.Node{Kind: api.List, Kids: c.kids}
		if text, e := json.Print(wide[:c.kids+1]); e != c.code || e == api.OK && len(text) != most-1 || e != api.OK && text != "" {
			t.Errorf("3.2: %d ones: %d bytes, %d", c.kids, len(text), int(e))
		}
	}
}

// 3.5, of a text of which Parse tells ErrJson.
func holdLeftmost(t *testing.T, r *rand.Rand, text string) {
	t.Helper()
	_, e, p := json.Parse(text)
	if e != api.ErrJson {
		return
	}
	if p < len(text) {
		for _, tail := range []string{"", text, "]", `"`, "}", randomText(r) + text[p+1:]} {
			if v, e, at := json.Parse(text[:p+1] + tail); v != nil || e != api.ErrJson || at != p {
				t.Fatalf("3.5: Parse(%q) tells ErrJson at %d, Parse(%q) %d at %d", text, p, text[:p+1]+tail, int(e), at)
			}
		}
	}
	holdGoesOn(t, text[:p])
}

// holdGoesOn: some text begins with the head that Parse takes. It is found byte by byte: one with which a text goes on is that at which no fault is told but that the text ends behind it.
func holdGoesOn(t *testing.T, head string) {
	t.Helper()
	text := head
	for range 300 {
		_, e, at := json.Parse(text)
		if e == api.OK {
			return
		}
		next := ""
		for _, sign := range []string{`"`, "]", "}", ":", "0", "u", "l", "r", "e", "a", "s", `\`, "d", "c", "\x80", "\x90", "\xa0"} {
			_, e, at = json.Parse(text + sign)
			if e == api.OK || e == api.ErrJson && at == len(text)+1 {
				next = sign
				break
			}
		}
		if next == "" {
			break
		}
		text += next
	}
	t.Fatalf("3.5: no text is found that begins with %q: not %q", head, text)
}

func TestLeftmostFault(t *testing.T) {
	r := rand.New(rand.NewSource(5))
	heads := []string{`{"a":1,"a`, `{"":0,"`, `{"":0,"0":1,"`, `"\ud800\u`, "\"\xed", "\"\xf4", "\"\xf0", "\"\xe0", strings.Repeat("[", 32), strings.Repeat(`{"a":`, 32), "-", "1.", "1e", "tr", "f", "nul"}
	for _, head := range heads {
		holdGoesOn(t, head)
	}
	for range 3000 {
		text := respell(r, randomValue(r, 0))
		cut := r.Intn(len(text) + 1)
		holdGoesOn(t, text[:cut])
		holdLeftmost(t, r, text[:cut]+string([]byte{byte(r.Intn(256))})+text[cut:])
		holdLeftmost(t, r, text[:cut]+[]string{"[", "]", "{", "}", ",", ":", `"`, "1", "e", "-", "."}[r.Intn(11)]+text[cut:])
		holdLeftmost(t, r, text[:cut]+text[min(cut+1, len(text)):])
	}
}

// What Go's own strict reader takes is taken, as deep as it may be, and says the same.
func TestAgainstLibrary(t *testing.T) {
	r := rand.New(rand.NewSource(7))
	taken := 0
	for range 30000 {
		text := respell(r, randomValue(r, 0))
		if cut := r.Intn(len(text)); r.Intn(2) == 0 {
			text = text[:cut] + []string{"", "1", ",", `"`, "]", "\x80", `\ud800`}[r.Intn(7)] + text[cut+1:]
		}
		v, e, _ := json.Parse(text)
		if want := jsontext.Value(text).IsValid(); want != (e == api.OK) {
			t.Fatalf("3.1: Parse(%q): %d; it is JSON: %v", text, int(e), want)
		}
		if e == api.OK {
			taken++
			holdTokens(t, text, v)
		}
	}
	if taken < 10000 {
		t.Errorf("only %d texts are taken", taken)
	}
}

// holdTokens: the value, word by word, as the library's reader tells it.
func holdTokens(t *testing.T, text string, v []api.Node) {
	t.Helper()
	around, _, _ := tree(v)
	d := jsontext.NewDecoder(strings.NewReader(text))
	next := func() jsontext.Token {
		for {
			token, err := d.ReadToken()
			if err != nil {
				t.Fatalf("%q: %v", text, err)
			}
			if k := token.Kind(); k != ']' && k != '}' {
				return token
			}
		}
	}
	kinds := map[jsontext.Kind]api.Kind{'n': api.Null, 'f': api.False, 't': api.True, '0': api.Number, '"': api.String, '[': api.List, '{': api.Object}
	for i, n := range v {
		if around[i] >= 0 && v[around[i]].Kind == api.Object {
			if name := next().String(); name != n.Key {
				t.Fatalf("3.1: Parse(%q): the name %q is told as %q", text, name, n.Key)
			}
		}
		token := next()
		if kinds[token.Kind()] != n.Kind || (n.Kind == api.Number || n.Kind == api.String) && token.String() != n.Text {
			t.Fatalf("3.1: Parse(%q): %q is told as %+v", text, token.String(), n)
		}
	}
	for {
		token, err := d.ReadToken()
		if err == io.EOF {
			return
		}
		if k := token.Kind(); err != nil || k != ']' && k != '}' {
			t.Fatalf("3.1: Parse(%q): more is said, %v", text, err)
		}
	}
}

// P2: a text is not kept: what was read stays, whatever becomes of its memory.
func TestParseKeepsNothing(t *testing.T) {
	for _, text := range []string{exampleText, `["abc",-12.5,123,"\u0041bc",{"name":"a"}]`, `"a"`, `17`} {
		memory := []byte(text)
		v := parse(t, unsafe.String(unsafe.SliceData(memory), len(memory)))
		again := parse(t, text)
		if !bytes.Equal(memory, []byte(text)) {
			t.Errorf("P2: Parse changes %q", text)
		}
		for i := range memory {
			memory[i] = '#'
		}
		if !slices.Equal(v, again) {
			t.Errorf("P2: what Parse(%q) answers shares memory with the text: %+v", text, v)
		}
		room := v[:cap(v)]
		for i := range room {
			room[i] = api.Node{Kind: 99}
		}
		if third := parse(t, text); !slices.Equal(third, again) {
			t.Errorf("P2: two answers of Parse(%q) share memory", text)
		}
	}
}

// P2: nodes stay as they were, their spare room too, and are not kept; answers are new.
func TestNodesStay(t *testing.T) {
	key, text, number := []byte("name"), []byte("text\n"), []byte("-1.5e3")
	alias := func(b []byte) string { return unsafe.String(unsafe.SliceData(b), len(b)) }
	room := []api.Node{{Kind: api.Object, Kids: 2}, named(alias(key), str(alias(text))), {Kind: api.Number, Text: alias(number)}, {Kind: 77, Key: "spare"}, {Kind: 78}}
	before := slices.Clone(room)
	v := room[:3]
	printed, e := json.Print(v)
	if e != api.OK || !json.Shaped(v) || json.Member(v, 0, "name") != 1 || json.Behind(v, 0) != 3 {
		t.Fatalf("3.2: %q, %d", printed, int(e))
	}
	kids := json.Kids(v, 0)
	for i := range kids[:cap(kids)] {
		kids[:cap(kids)][i] = 99
	}
	if again := json.Kids(v, 0); !slices.Equal(again, []int{1, 2}) {
		t.Errorf("P2: two answers of Kids share memory: %v", again)
	}
	if !slices.Equal(room, before) || string(key)+string(text)+string(number) != "nametext\n-1.5e3" {
		t.Errorf("P2: nodes are changed: %+v", room)
	}
	single, _ := json.Print([]api.Node{{Kind: api.Number, Text: alias(number)}})
	plain, _ := json.Print([]api.Node{str(alias(key))})
	clear(key)
	clear(text)
	clear(number)
	if printed != `{"name":"text\n","":-1.5e3}` || single != "-1.5e3" || plain != `"name"` {
		t.Errorf("P2: what Print answers shares memory with the nodes: %q, %q, %q", printed, single, plain)
	}
}

// P3: calls at the same time know nothing of each other.
func TestAtOnce(t *testing.T) {
	var work sync.WaitGroup
	for i := range 16 {
		work.Go(func() {
			r := rand.New(rand.NewSource(int64(i)))
			for range 300 {
				v := randomValue(r, 0)
				text := respell(r, v)
				if got, e, _ := json.Parse(text); e != api.OK || !slices.Equal(got, v) {
					t.Errorf("P3: Parse(%q) = %+v, %d", text, got, int(e))
				}
				if _, e, at := json.Parse(text + "x"); e != api.ErrJson || at < len(strings.TrimRight(text, " \t\r\n")) {
					t.Errorf("P3: Parse(%q) = %d at %d", text+"x", int(e), at)
				}
			}
		})
	}
	work.Wait()
}

func FuzzCalls(f *testing.F) {
	for _, text := range []string{exampleText, `{"a":1,"\u0061":{`, `"\ud800\udc00"`, "\"\xf4\x8f\xbf\xbf", "[-0.5E+7,null,true,false]", strings.Repeat("[", 33)} {
		f.Add(text, int64(1))
	}
	f.Fuzz(func(t *testing.T, text string, seed int64) {
		r := rand.New(rand.NewSource(seed))
		holdParse(t, text)
		if len(text) < 200 {
			holdLeftmost(t, r, text)
		}
		if v, e, _ := json.Parse(text); e == api.OK && len(v) < 100 {
			holdValue(t, v)
			w := spoil(r, v)
			holdValue(t, w)
			holdCalm(t, w)
		}
	})
}
