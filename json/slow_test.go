package json_test

import (
	"math/big"
	"regexp"
	"slices"
	"strconv"
	"strings"
	"unicode/utf16"
	"unicode/utf8"

	"signet/api"
)

// The chapter's words, taken slowly: what the package is held against.

type fault struct {
	code api.Errno
	at   int
}

type slow struct {
	text  string
	at    int
	depth int
	nodes []api.Node
}

// wantParse: the value, or the first fault.
func wantParse(text string) (v []api.Node, f fault) {
	if len(text) > api.MaxKeys {
		return nil, fault{api.ErrLarge, 0}
	}
	defer func() {
		if x := recover(); x != nil {
			v, f = nil, x.(fault)
		}
	}()
	s := slow{text: text}
	s.blanks()
	s.value("")
	s.blanks()
	if s.at < len(s.text) {
		s.wrong()
	}
	return s.nodes, fault{}
}

func (s *slow) wrong() { panic(fault{api.ErrJson, s.at}) }

func (s *slow) begins(sign string) bool { return strings.HasPrefix(s.text[s.at:], sign) }

func (s *slow) sign(sign string) {
	if !s.begins(sign) {
		s.wrong()
	}
	s.at += len(sign)
}

func (s *slow) blanks() {
	rest := s.text[s.at:]
	s.at += len(rest) - len(strings.TrimLeft(rest, "\x20\x09\x0a\x0d"))
}

func (s *slow) value(key string) {
	place := len(s.nodes)
	s.nodes = append(s.nodes, api.Node{Key: key})
	n := api.Node{Key: key}
	switch {
	case s.begins("["):
		n.Kind, n.Kids = api.List, s.values("]", func() { s.value("") })
	case s.begins("{"):
		var met []string
		n.Kind, n.Kids = api.Object, s.values("}", func() { s.member(&met) })
	case s.begins(`"`):
		n.Kind, n.Text = api.String, s.str()
	case s.begins("n"):
		n.Kind = s.literal("null", api.Null)
	case s.begins("f"):
		n.Kind = s.literal("false", api.False)
	case s.begins("t"):
		n.Kind = s.literal("true", api.True)
	default:
		n = numberOf(s.number())
		n.Key = key
	}
	s.nodes[place] = n
}

// values: how many stand between the brackets.
func (s *slow) values(end string, one func()) int {
	if s.depth == 32 {
		panic(fault{api.ErrDeep, s.at})
	}
	s.at++
	s.depth++
	defer func() { s.depth-- }()
	s.blanks()
	for n := 0; ; n++ {
		if n == 0 && s.begins(end) {
			s.at++
			return 0
		}
		one()
		s.blanks()
		if s.begins(end) {
			s.at++
			return n + 1
		}
		s.sign(",")
		s.blanks()
	}
}

func (s *slow) member(met *[]string) {
	from := s.at
	if !s.begins(`"`) {
		s.wrong()
	}
	key := s.str()
	if slices.Contains(*met, key) {
		panic(fault{api.ErrTwice, from})
	}
	*met = append(*met, key)
	s.blanks()
	s.sign(":")
	s.blanks()
	s.value(key)
}

func (s *slow) literal(word string, kind api.Kind) api.Kind {
	for i := range word {
		s.sign(word[i : i+1])
	}
	return kind
}

var (
	numberForm  = regexp.MustCompile(`\A-?(0|[1-9][0-9]*)(\.[0-9]+)?([eE][+-]?[0-9]+)?\z`)
	numberBegun = regexp.MustCompile(`\A-?((0|[1-9][0-9]*)((\.[0-9]*)?|(\.[0-9]+)?[eE][+-]?[0-9]*))?\z`)
	wholeForm   = regexp.MustCompile(`\A-?(0|[1-9][0-9]*)\z`)
)

// number: the longest run with which a number begins; it must be one.
func (s *slow) number() string {
	from := s.at
	for s.at < len(s.text) && numberBegun.MatchString(s.text[from:s.at+1]) {
		s.at++
	}
	if !numberForm.MatchString(s.text[from:s.at]) {
		s.wrong()
	}
	return s.text[from:s.at]
}

// numberOf: a number's node; Whole and Int by big.Int.
func numberOf(text string) api.Node {
	n := api.Node{Kind: api.Number, Text: text}
	if x, ok := new(big.Int).SetString(text, 10); ok && wholeForm.MatchString(text) && x.IsInt64() {
		n.Whole, n.Int = true, x.Int64()
	}
	return n
}

// charForms: every form of a char, byte by byte, each byte as the ones that it may be.
var charForms = [][]string{
	{` -!#-[]-` + "\x7f"},
	{"\xc2-\xdf", tail},
	{"\xe0", "\xa0-\xbf", tail},
	{"\xe1-\xec", tail, tail},
	{"\xed", "\x80-\x9f", tail},
	{"\xee-\xef", tail, tail},
	{"\xf0", "\x90-\xbf", tail, tail},
	{"\xf1-\xf3", tail, tail, tail},
	{"\xf4", "\x80-\x8f", tail, tail},
	{`\`, `"\/bfnrt`},
	{`\`, `u`, `0-9a-ce-fA-CE-F`, hex, hex, hex},
	{`\`, `u`, `dD`, `0-7`, hex, hex},
	{`\`, `u`, `dD`, `89abAB`, hex, hex, `\`, `u`, `dD`, `c-fC-F`, hex, hex},
}

const (
	tail = "\x80-\xbf"
	hex  = "0-9a-fA-F"
)

// may: is the byte one of the set? A set is bytes, and pairs of them with a minus between.
func may(set string, b byte) bool {
	for i := 0; i < len(set); i++ {
		if i+2 < len(set) && set[i+1] == '-' {
			if set[i] <= b && b <= set[i+2] {
				return true
			}
			i += 2
		} else if set[i] == b {
			return true
		}
	}
	return false
}

func (s *slow) str() string {
	s.sign(`"`)
	said := ""
	for !s.begins(`"`) {
		said += s.char()
	}
	s.at++
	return said
}

func (s *slow) char() string {
	from, forms := s.at, charForms
	for i := 0; ; i++ {
		if s.at == len(s.text) {
			s.wrong()
		}
		var left [][]string
		for _, f := range forms {
			if may(f[i], s.text[s.at]) {
				left = append(left, f)
			}
		}
		switch first := s.text[from]; {
		case len(left) > 0:
		case first == '\\':
			panic(fault{api.ErrEscape, from})
		case first >= 0x80:
			panic(fault{api.ErrUtf8, from})
		default:
			s.wrong()
		}
		s.at++
		forms = left
		if len(forms) == 1 && len(forms[0]) == i+1 {
			return said(s.text[from:s.at])
		}
	}
}

// said: what a char says, as UTF-8.
func said(char string) string {
	unit := func(digits string) rune {
		n, _ := strconv.ParseUint(digits, 16, 16)
		return rune(n)
	}
	switch {
	case len(char) == 2 && char[0] == '\\':
		return map[string]string{`"`: "\x22", `\`: "\x5c", `/`: "\x2f", `b`: "\x08", `f`: "\x0c", `n`: "\x0a", `r`: "\x0d", `t`: "\x09"}[char[1:]]
	case len(char) == 6:
		return string(unit(char[2:]))
	case len(char) == 12:
		return string(utf16.DecodeRune(unit(char[2:6]), unit(char[8:])))
	}
	return char
}

// tree: of each node the place around it (-1: none), and the place behind its value; false, if the nodes are not just one value.
func tree(v []api.Node) (around, behind []int, ok bool) {
	type opened struct{ at, left int }
	var open []opened
	around, behind = make([]int, len(v)), make([]int, len(v))
	for i, n := range v {
		around[i] = -1
		if len(open) > 0 {
			around[i] = open[len(open)-1].at
			open[len(open)-1].left--
		} else if i > 0 {
			return nil, nil, false
		}
		if n.Kids < 0 {
			return nil, nil, false
		}
		open = append(open, opened{i, n.Kids})
		for len(open) > 0 && open[len(open)-1].left == 0 {
			behind[open[len(open)-1].at] = i + 1
			open = open[:len(open)-1]
		}
	}
	return around, behind, len(v) > 0 && len(open) == 0
}

// wantShaped: the chapter's conditions, one by one.
func wantShaped(v []api.Node) bool {
	around, _, ok := tree(v)
	if !ok {
		return false
	}
	for i, n := range v {
		holds := n.Kind == api.List || n.Kind == api.Object
		if n.Kind < api.Null || n.Kind > api.Object || n.Kids != 0 && !holds || n.Text != "" && n.Kind != api.Number && n.Kind != api.String {
			return false
		}
		if n.Kind != api.Number && (n.Whole || n.Int != 0) || n.Kind == api.String && !utf8.ValidString(n.Text) {
			return false
		}
		if w := numberOf(n.Text); n.Kind == api.Number && (!numberForm.MatchString(n.Text) || w.Whole != n.Whole || w.Int != n.Int) {
			return false
		}
		inObject := around[i] >= 0 && v[around[i]].Kind == api.Object
		if n.Key != "" && !inObject || !utf8.ValidString(n.Key) {
			return false
		}
		for j := range i {
			if inObject && around[j] == around[i] && v[j].Key == n.Key {
				return false
			}
		}
		others := 0
		for up := around[i]; up >= 0; up = around[up] {
			others++
		}
		if holds && others >= 32 {
			return false
		}
	}
	return true
}

// wantPrint: the shortest text of a well shaped value.
func wantPrint(v []api.Node) string {
	around, behind, _ := tree(v)
	var tell func(at int) string
	tell = func(at int) string {
		var parts []string
		for kid := range v {
			if around[kid] == at && kid > 0 && v[at].Kind == api.Object {
				parts = append(parts, wantQuoted(v[kid].Key)+":"+tell(kid))
			} else if around[kid] == at && kid > 0 {
				parts = append(parts, tell(kid))
			}
		}
		inner := strings.Join(parts, ",")
		return map[api.Kind]string{api.Null: "null", api.False: "false", api.True: "true", api.Number: v[at].Text, api.String: wantQuoted(v[at].Text), api.List: "[" + inner + "]", api.Object: "{" + inner + "}"}[v[at].Kind]
	}
	if behind[0] != len(v) {
		panic("no value to test with")
	}
	return tell(0)
}

func wantQuoted(text string) string {
	pairs := []string{`"`, `\"`, `\`, `\\`, "\x08", `\b`, "\x0c", `\f`, "\x0a", `\n`, "\x0d", `\r`, "\x09", `\t`}
	for b := range byte(32) {
		code := "000" + strconv.FormatInt(int64(b), 16)
		pairs = append(pairs, string(rune(b)), `\u`+code[len(code)-4:])
	}
	return `"` + strings.NewReplacer(pairs...).Replace(text) + `"`
}
