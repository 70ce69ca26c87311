package rules_test

import (
	"fmt"
	"strings"
	"testing"

	"signet/api"
	"signet/rules"
)

// The chapter's table.
func TestExamples(t *testing.T) {
	t.Parallel()
	v := value(t, `{"a":1,"b":{"c":["x","y"]},"and":true,"f":16777217}`)
	for text, want := range map[string]bool{
		`a = 1`: true, `a=1.00000001`: true, `a < 2 and not a > 2`: true,
		`f = 16777216`: true,
		`b.c.1 = "y"`:  true, `b.c.2 = "y"`: false, `not b.c.2 = "y"`: true, `b.c contains "x"`: true,
		`b.c != "y"`: false, `a != "1"`: false, `a >= "1"`: false,
		`"and" = true`: true, `"and" != false`: false,
		`has b.c`: true, `has b.d`: false,
		`a = 1 or b = 2 and c = 3`: true, `((a = 1))`: true, `not (a = 1 or has b)`: false,
	} {
		mustAllow(t, want, text, v)
	}
	for _, c := range []struct {
		text string
		at   int
	}{{``, 0}, {`a`, 1}, {`a =`, 3}, {`a = b`, 4}, {`and = 1`, 0}, {`a = 01`, 4}, {`b.c.01 = 1`, 4}, {`0 = 1`, 0}} {
		mustFault(t, c.text, api.ErrRule, c.at)
	}
	a, b, c := leaf(api.RuleEqual, api.Number, "1", "a"), leaf(api.RuleEqual, api.Number, "2", "b"), leaf(api.RuleEqual, api.Number, "3", "c")
	mustRule(t, `a = 1 or b = 2 and c = 3`, joined(api.RuleOr, []api.RuleNode{a}, joined(api.RuleAnd, []api.RuleNode{b}, []api.RuleNode{c})))
	mustPrint(t, `a = 1 or b = 2 and c = 3`, `a = 1 or b = 2 and c = 3`)
	mustPrint(t, `((a = 1))`, `a = 1`)
	mustPrint(t, `not (a = 1 or has b)`, `not (a = 1 or has b)`)
	mustFault(t, strings.Repeat("(", 33), api.ErrDeep, 32)
	mustRule(t, strings.Repeat("(", 32)+"a = 1"+strings.Repeat(")", 32), []api.RuleNode{a})
}

func mustRule(t *testing.T, text string, want []api.RuleNode) {
	t.Helper()
	if got := rule(t, text); !same(got, want) {
		t.Errorf("25.1: Parse(%q) = %s, want %s", text, short(got), short(want))
	}
}

// Each node as plain data, written out.
func TestPlainData(t *testing.T) {
	t.Parallel()
	for text, want := range map[string]api.RuleNode{
		`has a`:               {Op: api.RuleHas, Path: []string{"a"}},
		`a = 1`:               {Op: api.RuleEqual, Path: []string{"a"}, Value: api.Number, Text: "1"},
		`a != -0.50E+7`:       {Op: api.RuleUnequal, Path: []string{"a"}, Value: api.Number, Text: "-0.50E+7"},
		`a < "\u0062\n"`:      {Op: api.RuleLess, Path: []string{"a"}, Value: api.String, Text: "b\n"},
		`a <= true`:           {Op: api.RuleAtMost, Path: []string{"a"}, Value: api.True},
		`a > false`:           {Op: api.RuleMore, Path: []string{"a"}, Value: api.False},
		`a >= null`:           {Op: api.RuleAtLeast, Path: []string{"a"}, Value: api.Null},
		`a contains "b"`:      {Op: api.RuleContains, Path: []string{"a"}, Value: api.String, Text: "b"},
		`a contains ""`:       {Op: api.RuleContains, Path: []string{"a"}, Value: api.String},
		`has a.0."0".10."\""`: {Op: api.RuleHas, Path: []string{"a", "0", "0", "10", `"`}},
		`has _9.A."".a_Z09`:   {Op: api.RuleHas, Path: []string{"_9", "A", "", "a_Z09"}},
		`has "\ud83d\ude00é"`: {Op: api.RuleHas, Path: []string{"\U0001f600é"}},
		`has "01"."a b"`:      {Op: api.RuleHas, Path: []string{"01", "a b"}},
	} {
		want.A, want.B = -1, -1
		mustRule(t, text, []api.RuleNode{want})
	}
	a, b, c, d := has("a"), has("b"), has("c"), has("d")
	mustRule(t, `has a and has b and has c`, []api.RuleNode{a, b, {Op: api.RuleAnd, A: 0, B: 1}, c, {Op: api.RuleAnd, A: 2, B: 3}})
	mustRule(t, `has a or has b or has c`, []api.RuleNode{a, b, {Op: api.RuleOr, A: 0, B: 1}, c, {Op: api.RuleOr, A: 2, B: 3}})
	mustRule(t, `has a and (has b and has c)`, []api.RuleNode{a, b, c, {Op: api.RuleAnd, A: 1, B: 2}, {Op: api.RuleAnd, A: 0, B: 3}})
	mustRule(t, `has a or (has b or has c)`, []api.RuleNode{a, b, c, {Op: api.RuleOr, A: 1, B: 2}, {Op: api.RuleOr, A: 0, B: 3}})
	mustRule(t, `has a and has b or has c and has d`, []api.RuleNode{a, b, {Op: api.RuleAnd, A: 0, B: 1}, c, d, {Op: api.RuleAnd, A: 3, B: 4}, {Op: api.RuleOr, A: 2, B: 5}})
	mustRule(t, `(has a or has b) and not has c`, []api.RuleNode{a, b, {Op: api.RuleOr, A: 0, B: 1}, c, {Op: api.RuleNot, A: 3, B: -1}, {Op: api.RuleAnd, A: 2, B: 4}})
	mustRule(t, `not has a and has b`, []api.RuleNode{a, {Op: api.RuleNot, A: 0, B: -1}, b, {Op: api.RuleAnd, A: 1, B: 2}})
	mustRule(t, `not not (has a and has b)`, []api.RuleNode{a, b, {Op: api.RuleAnd, A: 0, B: 1}, {Op: api.RuleNot, A: 2, B: -1}, {Op: api.RuleNot, A: 3, B: -1}})
}

// Words that need no blank between, words that do, and all that is no blank.
func TestBlanks(t *testing.T) {
	t.Parallel()
	a, b := leaf(api.RuleEqual, api.Number, "1", "a"), leaf(api.RuleEqual, api.Number, "2", "b")
	both := joined(api.RuleAnd, []api.RuleNode{a}, []api.RuleNode{b})
	for _, text := range []string{`a=1and b=2`, `a=1 and b=2`, "\t\r\n a\t=\n1\rand\nb =\t2 \n", `(a=1)and(b=2)`, `("a"=1and"b"=2)`, `a=1and(b=2)`, `((a=1)and b=2)`} {
		mustRule(t, text, both)
	}
	mustRule(t, `not a=1`, not([]api.RuleNode{a}))
	mustRule(t, `nota=1`, []api.RuleNode{leaf(api.RuleEqual, api.Number, "1", "nota")})
	mustRule(t, `not(a=1)`, not([]api.RuleNode{a}))
	mustRule(t, `not"a"=1`, not([]api.RuleNode{a}))
	mustRule(t, `has"a"`, []api.RuleNode{has("a")})
	mustRule(t, `hasa=1`, []api.RuleNode{leaf(api.RuleEqual, api.Number, "1", "hasa")})
	mustRule(t, "has a\n.\t0 . \"b\"", []api.RuleNode{has("a", "0", "b")})
	mustRule(t, `has a.0or has b`, joined(api.RuleOr, []api.RuleNode{has("a", "0")}, []api.RuleNode{has("b")}))
	mustRule(t, `a contains"b"or a<=-1`, joined(api.RuleOr, []api.RuleNode{leaf(api.RuleContains, api.String, "b", "a")}, []api.RuleNode{leaf(api.RuleAtMost, api.Number, "-1", "a")}))
	mustFault(t, `has a.0b`, api.ErrRule, 7)
	mustFault(t, `has a.0has`, api.ErrRule, 7)
	mustFault(t, `a = trueand b = 2`, api.ErrRule, 4)
	mustFault(t, `a = 1orb = 2`, api.ErrRule, 5)
	mustFault(t, `a < = 1`, api.ErrRule, 4)
	mustFault(t, `a ! = 1`, api.ErrRule, 2)
	mustFault(t, `a contains1`, api.ErrRule, 2)
	mustFault(t, `a = - 1`, api.ErrRule, 4)
	mustFault(t, `a = 1 .5`, api.ErrRule, 6)
	for b := range 256 {
		text := "a" + string([]byte{byte(b)}) + "= 1"
		if _, code := holdParse(t, text); (code == api.OK) != (strings.IndexByte(" \t\n\r<>!", byte(b)) >= 0 || nameForm.MatchString(text[:2])) {
			t.Errorf("25.1: %q: %d", text, int(code))
		}
	}
}

// Faults, each told at the first byte of its word, or at the text's end.
func TestFaults(t *testing.T) {
	t.Parallel()
	for _, c := range []struct {
		text string
		at   int
	}{
		{" \t\r\n", 4}, {"a ", 2}, {"a  =  ", 6}, {"has", 3}, {"has ", 4}, {"not", 3}, {"(", 1}, {"a .", 3}, {"a.b", 3}, {"a contains", 10}, {"a = 1 and", 9}, {"a = 1 or ", 9}, {"(a = 1", 6}, {"((a = 1)", 8}, {"not (a = 1", 10}, {"(has a", 6},
		{"= 1", 0}, {")", 0}, {"()", 1}, {"a = 1)", 5}, {"(a = 1))", 7}, {"has a)", 5}, {"a (", 2}, {"a = (1)", 4}, {"(a) = 1", 2}, {"a not = 1", 2}, {"a and b", 2}, {"a = 1 b", 6}, {"a = 1 not b", 6}, {"a = 1 = 1", 6}, {"a = 1 . b", 6}, {`a = 1 "b"`, 6}, {"a = 1 2", 6}, {"a = 1 has b", 6}, {"a = 1 true", 6}, {"and", 0}, {"or has a", 0}, {"contains", 0}, {"true", 0}, {"false = 1", 0}, {"null = 1", 0},
		{"a = 1 and and", 10}, {"a = 1 and or", 10}, {"a = 1 and )", 10}, {"a = 1 or = 1", 9}, {"not and", 4}, {"not )", 4}, {"not = 1", 4}, {"not not", 7},
		{"a.and = 1", 2}, {"a.or", 2}, {"a.not", 2}, {"a.has", 2}, {"a.contains", 2}, {"a.true", 2}, {"a.false", 2}, {"a.null", 2}, {"a. = 1", 3}, {"a..b", 2}, {"a.(b)", 2}, {". = 1", 0}, {"a.-1 = 1", 2}, {"a.+1 = 1", 2}, {"a.01 = 1", 2}, {"a.00 = 1", 2}, {"a.0.00 = 1", 4}, {"a.1e1 = 1", 3}, {"a.1 1 = 1", 4}, {"a.0x1 = 1", 3}, {"a.0_ = 1", 3}, {"a.0.1.02", 6},
		{"0 = 1", 0}, {"1", 0}, {"-1 = 1", 0}, {"01 = 1", 0}, {"not 0 = 1", 4}, {"(0 = 1)", 1}, {"has 0", 4}, {"has 0.a", 4}, {"has -", 4}, {"0a = 1", 0}, {"has a and 0 = 1", 10},
		{"has has", 4}, {"has and", 4}, {"has not a", 4}, {"has (a)", 4}, {"has = 1", 4}, {"has a = 1", 6}, {"has a contains \"x\"", 6}, {"has a b", 6}, {"has a not", 6}, {"has a 0", 6},
		{"a = b", 4}, {"a = and", 4}, {"a = not", 4}, {"a = has", 4}, {"a = =", 4}, {"a = )", 4}, {"a = .", 4}, {"a = tru", 4}, {"a = truee", 4}, {"a = True", 4}, {"a = nul", 4}, {"a == 1", 3}, {"a =< 1", 3}, {"a => 1", 3}, {"a <> 1", 3}, {"a >> 1", 3}, {"a !> 1", 2}, {"a ! 1", 2}, {"a !", 2}, {"!", 0}, {"a !! 1", 2}, {"a != != 1", 5},
		{"a = 01", 4}, {"a = 1.", 4}, {"a = .5", 4}, {"a = -", 4}, {"a = --1", 4}, {"a = +1", 4}, {"a = 1e", 4}, {"a = 1e+", 4}, {"a = 1.e1", 4}, {"a = 1-1", 4}, {"a = 1+1", 4}, {"a = 1.1.1", 4}, {"a = 1ee1", 4}, {"a = 1else", 4}, {"a = 1eand b = 2", 4}, {"a = -01", 4}, {"a = 0x1", 5}, {"a = 1_0", 5}, {"a = 1,0", 5}, {"a = 1 e5", 6},
		{"a contains 1", 11}, {"a contains true", 11}, {"a contains b", 11}, {"a contains (\"b\")", 11}, {"a contains contains", 11}, {"a contains = \"x\"", 11}, {"contains \"x\"", 0},
		{`a = "x`, 4}, {`a = "`, 4}, {`a = "\"`, 4}, {`a = "\`, 4}, {`a = "x\\\"`, 4}, {`a = "\x"`, 4}, {`a = "\u12g4"`, 4}, {`a = "\u123"`, 4}, {`a = "\ud800"`, 4}, {`a = "\udc00"`, 4}, {"a = \"\n\"", 4}, {"a = \"\x00\"", 4}, {"a = \"\xff\"", 4}, {"a = \"\xc3\"", 4}, {`a = "\`, 4}, {`"x`, 0}, {`"\x" = 1`, 0}, {`a."x`, 2}, {`a."\x"`, 2}, {`a "x"`, 2}, {`a "x`, 2}, {`a contains "x`, 11}, {`a contains "\x"`, 11}, {`a = "x" "`, 8}, {`a = "x"y"`, 7}, {`a = "a\"`, 4}, {`a = "a" b"`, 8}, {`"" "" = 1`, 3}, {`a = 'x'`, 4},
		{"é = 1", 0}, {"a.é = 1", 2}, {"aé = 1", 1}, {"a = é", 4}, {"a = 1 é", 6}, {"a\u00a0= 1", 1}, {"\ufeffa = 1", 0}, {"a = 1 # b", 6}, {"a = 1;", 5}, {"a & b", 2}, {"a = 1 && b = 2", 6}, {"a = 1 || b", 6}, {"a = [1]", 4}, {"a[0] = 1", 1}, {"a-b = 1", 1}, {"a/b = 1", 1}, {"$a = 1", 0}, {"@a = 1", 0}, {"`a` = 1", 0}, {"{a} = 1", 0}, {"a\x00= 1", 1}, {"\x00", 0}, {"a = 1\x00", 5}, {"a\v= 1", 1}, {"a\f= 1", 1}, {"\x85", 0}, {"a = 1\xff", 5},
		{"AND = 1)", 7}, {"a = 1 AND b = 2", 6}, {"NOT a = 1", 4}, {"HAS a", 4}, {"a CONTAINS \"x\"", 2},
	} {
		mustFault(t, c.text, api.ErrRule, c.at)
	}
}

// Words that differ from those of the language alone in a letter are names.
func TestNearlyWords(t *testing.T) {
	t.Parallel()
	for _, w := range strings.Fields(reserved) {
		for _, name := range []string{w + "_", "_" + w, w + "0", strings.ToUpper(w), strings.ToUpper(w[:1]) + w[1:], w + w, w[:len(w)-1], w[1:], w + "s"} {
			if strings.Contains(reserved, " "+name+" ") {
				continue
			}
			mustRule(t, name+" = 1", []api.RuleNode{leaf(api.RuleEqual, api.Number, "1", name)})
			mustRule(t, "has a."+name, []api.RuleNode{has("a", name)})
			mustPrint(t, `"`+name+`" = 1`, name+" = 1")
		}
		mustRule(t, `"`+w+`"."`+w+`" = 1`, []api.RuleNode{leaf(api.RuleEqual, api.Number, "1", w, w)})
		mustPrint(t, `"`+w+`"."`+w+`" = 1`, `"`+w+`"."`+w+`" = 1`)
	}
}

// fullText has a word of every kind.
const fullText = ` not ( a_1 . 0."\u00e9\"" <= -1.5e3 or(has"b".10)and not c contains "\ud83d\ude00x" ) and d!=true or e=false and f > null or _G>="" and h<2 `

// Every beginning and every end of a text, every byte put in, every byte in place of another, every two bytes changed about.
func TestEveryByte(t *testing.T) {
	t.Parallel()
	rule(t, fullText)
	for i := range len(fullText) + 1 {
		holdParse(t, fullText[:i])
		holdParse(t, fullText[i:])
		for b := range 256 {
			holdParse(t, fullText[:i]+string([]byte{byte(b)})+fullText[i:])
			if i < len(fullText) {
				holdParse(t, fullText[:i]+string([]byte{byte(b)})+fullText[i+1:])
			}
		}
		for j := i + 1; j <= len(fullText); j++ {
			holdParse(t, fullText[:i]+fullText[j:])
		}
	}
}

// Every row of words, as long as Parse would go on behind it, with a blank between and without one.
func TestEveryRow(t *testing.T) {
	t.Parallel()
	words := []string{"(", ")", "and", "or", "not", "has", "contains", "true", "null", "a", "b0", `"s"`, "0", "12", "01", "-1", "1.5", "1e", ".", "=", "!=", "<", "<=", ">=", "!", `"`, `"\x"`, "é", "\x00", "-"}
	rows, taken := 0, 0
	for _, between := range []string{" ", ""} {
		var grow func(text string, left int)
		grow = func(text string, left int) {
			rows++
			if _, code := holdParse(t, text); code == api.OK {
				taken++
			}
			// Goes on behind a text that ends too early, or is a rule.
			_, code, at := rules.Parse(text)
			if left == 0 || code != api.OK && at < len(text) {
				return
			}
			for _, w := range words {
				next := text + between + w
				if text == "" {
					next = w
				}
				grow(next, left-1)
			}
		}
		grow("", 5)
	}
	if rows < 60000 || taken < 2000 {
		t.Fatalf("%d rows, %d of them taken", rows, taken)
	}
}

// MaxRule: of the text alone, and ahead of all else.
func TestLongest(t *testing.T) {
	t.Parallel()
	pad := func(text string, size int) string { return text + strings.Repeat(" ", size-len(text)) }
	for _, text := range []string{"a = 1", "a", "", "é", "(((", `"`, "\xff"} {
		if _, code, _ := rules.Parse(pad(text, api.MaxRule)); code == api.ErrLarge {
			t.Errorf("25.1: %q and blanks up to MaxRule: ErrLarge", text)
		}
		holdParse(t, pad(text, api.MaxRule))
		for _, size := range []int{api.MaxRule + 1, api.MaxRule + 2, 1 << 20} {
			mustFault(t, pad(text, size), api.ErrLarge, 0)
		}
	}
	mustFault(t, strings.Repeat("(", api.MaxRule), api.ErrDeep, 32)
	mustFault(t, strings.Repeat("(", api.MaxRule+1), api.ErrLarge, 0)
	name := strings.Repeat("n", api.MaxRule-4)
	mustRule(t, name+" = 1", []api.RuleNode{leaf(api.RuleEqual, api.Number, "1", name)})
	mustFault(t, name+"n = 1", api.ErrLarge, 0)
	digits := strings.Repeat("9", api.MaxRule-4)
	mustRule(t, "a = "+digits, []api.RuleNode{leaf(api.RuleEqual, api.Number, digits, "a")})
	mustRule(t, "has a."+digits[:1000], []api.RuleNode{has("a", digits[:1000])})
	v := value(t, `{"a":1}`)
	for _, text := range []string{pad("a = 1", api.MaxRule+1), pad("", api.MaxRule+1)} {
		if code := holdAllow(t, text, v); code != api.ErrLarge {
			t.Errorf("25.4: of a text too long: %d", int(code))
		}
		if code := holdAllow(t, text, nil); code != api.ErrLarge {
			t.Errorf("25.4: of a text too long and no value: %d", int(code))
		}
	}
	// Parts, and leaves, as many as there is room for.
	rule(t, "has a"+strings.Repeat(".b", (api.MaxRule-5)/2))
	rule(t, "has a"+strings.Repeat(" or has a", (api.MaxRule-5)/9))
	rule(t, "has a"+strings.Repeat(" and has a", (api.MaxRule-5)/10))
}

// MaxDepth: brackets and nots together, up to their ends.
func TestDeepest(t *testing.T) {
	t.Parallel()
	for nots := range 34 {
		for _, begin := range []string{strings.Repeat("not ", nots) + strings.Repeat("(", 33-nots), strings.Repeat("(", 33-nots) + strings.Repeat("not ", nots), strings.Repeat("not(", min(nots, 33-nots)) + strings.Repeat("(", 33-2*min(nots, 33-nots))} {
			end := strings.Repeat(")", strings.Count(begin, "("))
			last := strings.LastIndexAny(begin, "n(")
			for _, inner := range []string{"a = 1", "has a", "", ")", "=", "not", "(((", "0", `"`} {
				mustFault(t, begin+inner+end, api.ErrDeep, last)
			}
			// One less is open.
			least := begin[:last]
			mustParse(t, least+"a = 1"+strings.Repeat(")", strings.Count(least, "(")), api.OK)
			mustParse(t, least+"a = 1"+strings.Repeat(")", strings.Count(least, "("))+" and "+least+"has b"+strings.Repeat(")", strings.Count(least, "(")), api.OK)
		}
	}
	open := strings.Repeat("(", 31)
	mustParse(t, open+"not a = 1 and not b = 1 or not has c.d and not not_ contains \"x\""+strings.Repeat(")", 31), api.OK)
	mustFault(t, open+"not a = 1 and not not b = 1"+strings.Repeat(")", 31), api.ErrDeep, 31+18)
	mustParse(t, open+"not a = 1 and (b = 1) or (not_ = 1)"+strings.Repeat(")", 31), api.OK)
	mustFault(t, open+"(a = 1) and (not b = 1)"+strings.Repeat(")", 31), api.ErrDeep, 31+13)
	mustFault(t, open+"not (a = 1)"+strings.Repeat(")", 31), api.ErrDeep, 31+4)
	// A bracket or a not that cannot stand there is no deeper one.
	full := open + "("
	mustFault(t, full+"a = (", api.ErrRule, 36)
	mustFault(t, full+"a = not", api.ErrRule, 36)
	mustFault(t, full+"a = 1 (", api.ErrRule, 38)
	mustFault(t, full+"a.not", api.ErrRule, 34)
	mustFault(t, full+"= (", api.ErrRule, 32)
	// As many as there is room for, one behind the other.
	mustParse(t, "has a"+strings.Repeat(" or(has a)", 100), api.OK)
	mustParse(t, "has a"+strings.Repeat(" and not has a", 72), api.OK)
}

func mustParse(t *testing.T, text string, want api.Errno) {
	t.Helper()
	if _, code := holdParse(t, text); code != want {
		t.Errorf("25.1: Parse(%.200q): %d, want %d", text, int(code), int(want))
	}
}

// Texts that are taken, and whose canonical text is too long for its length alone.
func TestGrows(t *testing.T) {
	t.Parallel()
	for _, one := range []string{"a=1", `"a"<2`, `has"a"`, `a contains"x"`, "(a=1)", "not(a=1)"} {
		short := one + strings.Repeat("or(("+one+"))", 3)
		if text, code := rules.Print(rule(t, short)); code != api.OK || text == short {
			t.Errorf("25.2: Print of %q: %q, %d", short, text, int(code))
		}
	}
	text := "a=1" + strings.Repeat("or a=1", (api.MaxRule-3)/6)
	for _, c := range []struct {
		leaves int
		want   api.Errno
	}{{114, api.OK}, {115, api.ErrRule}} {
		r := rule(t, text[:3+6*(c.leaves-1)])
		if got, code := holdRule(t, r); code != c.want || code == api.OK && len(got) != 9*c.leaves-4 {
			t.Errorf("25.5: %d leaves: %d bytes, %d", c.leaves, len(got), int(code))
		}
		if ok, code := holdHolds(t, r, value(t, `{"a":1}`)); !ok || code != api.OK {
			t.Errorf("25.3: %d leaves: %v, %d", c.leaves, ok, int(code))
		}
	}
}

// A rule is told apart by nothing but its text: P3.
func TestSameAgain(t *testing.T) {
	t.Parallel()
	for range 3 {
		mustFault(t, "not not not (((", api.ErrRule, 15)
		mustRule(t, "has a", []api.RuleNode{has("a")})
		mustFault(t, strings.Repeat("(", 40), api.ErrDeep, 32)
		mustRule(t, "has a.b", []api.RuleNode{has("a", "b")})
		mustFault(t, "", api.ErrRule, 0)
		mustPrint(t, `has"a"`, "has a")
		mustFault(t, fmt.Sprintf("has a.%s", "01"), api.ErrRule, 6)
	}
}
