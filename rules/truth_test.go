package rules_test

import (
	"fmt"
	"slices"
	"strings"
	"testing"

	"signet/api"
	"signet/json"
	"signet/rules"
)

// allowAll: what is true of the value, and what is not.
func allowAll(t *testing.T, v []api.Node, isTrue, isFalse []string) {
	t.Helper()
	for _, text := range isTrue {
		mustAllow(t, true, text, v)
		mustAllow(t, false, "not("+text+")", v)
	}
	for _, text := range isFalse {
		mustAllow(t, false, text, v)
		mustAllow(t, true, "not("+text+")", v)
	}
}

// Where paths lead: through objects by names, through lists by places, through nothing else.
func TestPaths(t *testing.T) {
	t.Parallel()
	v := value(t, `{"a":{"a":{"a":1,"0":2},"0":3,"":4},"l":["x",["y",["z"],{"0":"w","a":"u"}],[],{}],"s":"text","n":12,"t":true,"f":false,"u":null,"":{"":{"":5}},"0":{"0":6},"1":[7],"é":8,"a b":9,"a.a":10,"\u0000":11,"01":12,"long":[0,1,2,3,4,5,6,7,8,9,10,11]}`)
	allowAll(t, v, []string{
		"has a", "has a.a", "has a.a.a", "a.a.a = 1", `a."a".a = 1`, "a.a.0 = 2", `a.a."0" = 2`, "a.0 = 3", `a."" = 4`, `has "a"`, `has "\u0061"."\u0061"`,
		"l.0 = \"x\"", `l."0" = "x"`, `l.1.0 = "y"`, `l.1.1.0 = "z"`, `l.1.2.0 = "w"`, `l.1.2.a = "u"`, "has l.2", "has l.3", "has l",
		"has s", "has n", "has t", "has f", "has u", `"".""."" = 5`, `has ""`, `has "".""`, `"0".0 = 6`, `"0"."0" = 6`, `"1".0 = 7`, `"é" = 8`, `"\u00e9" = 8`, `"a b" = 9`, `"a.a" = 10`, `"\u0000" = 11`, `"01" = 12`,
		"long.0 = 0", "long.9 = 9", "long.10 = 10", "long.11 = 11",
	}, []string{
		"has b", "has A", "has aa", "has a.b", "has a.a.b", "has a.a.a.a", "has a.a.a.0", "has a.1", `has a."00"`, `has a.a.""`, `has "a.a.a"`, `has "a "`,
		"has l.4", "has l.a", `has l.""`, `has l."00"`, `has l."01"`, `has l."0 "`, `has l." 0"`, `has l."+0"`, `has l."-0"`, `has l."-1"`, `has l."0.0"`, `has l."1e0"`, `has l."0x0"`, `has l."٠"`, `has l."1_0"`, "has l.1.3", "has l.2.0", "has l.3.0", "has l.0.0", "has l.1.1.1", "has l.1.1.0.0",
		"has s.0", "has s.s", `has s.""`, "has n.0", "has n.n", "has t.0", "has f.0", "has u.0", `has "".a`, `has ""."".""."" `, `has "0".1`, `has "1".1`, `has "1"."00"`, `has "e\u0301"`, "has long.12", `has long."010"`, `has long."1\u0000"`, `has ""."0"`,
		"has l.9223372036854775807", "has l.9223372036854775808", "has l.18446744073709551615", "has l.18446744073709551616", "has l.18446744073709551617", "has l.4294967296", "has l.4294967297", "has l." + strings.Repeat("9", 900), `has l."-9223372036854775808"`,
	})
	// A path that leads nowhere makes each test false, and so each not of it true.
	for _, text := range []string{"b = 1", "b != 1", "b < 1", "b <= 1", "b > 1", "b >= 1", "b = null", "b != null", `b = ""`, `b contains ""`, "b = true", "b != true", "b = false", `l.4 contains ""`, "l.4 != 1"} {
		allowAll(t, v, nil, []string{text})
	}
}

// Every kind of value against every kind and every comparison: true are = of the same, != of others of the same kind, and what numbers' order says.
func TestEveryComparison(t *testing.T) {
	t.Parallel()
	v := value(t, `{"null":null,"false":false,"true":true,"one":1,"two":2,"x":"x","y":"y","1":"1","2":"2","t":"true","n":"null","empty":"","list":[],"ones":[1],"xs":["x"],"object":{},"member":{"x":"x"}}`)
	isTrue := []string{
		"null = null", "false = false", "true = true",
		"one = 1", "two = 2", "one != 2", "two != 1", "one < 2", "one <= 2", "one <= 1", "two <= 2", "two > 1", "two >= 1", "two >= 2", "one >= 1",
		`x = "x"`, `1 = "1"`, `t = "true"`, `n = "null"`, `empty = ""`,
	}
	for _, node := range v[1:] {
		for _, sign := range []string{"=", "!=", "<", "<=", ">", ">="} {
			for _, text := range []string{"null", "false", "true", "1", "2", `"x"`, `"1"`, `"true"`, `"null"`, `""`} {
				if node.Key == "" {
					continue
				}
				test := node.Key + " " + sign + " " + text
				want := slices.Contains(isTrue, test)
				// Of two strings that are not the same != is true.
				want = want || sign == "!=" && node.Kind == api.String && text[0] == '"' && `"`+node.Text+`"` != text
				mustAllow(t, want, `"`+node.Key+`" `+sign+" "+text, v)
			}
		}
	}
}

// Numbers go by their nearest float32, as numbers.
func TestFloats(t *testing.T) {
	t.Parallel()
	v := value(t, `{"a":1,"f":16777217,"z":-0,"o":0.0,"big":1e39,"low":-1e39,"max":3.4028234663852886e38,"under":340282356779733661637539395458142568447,"over":340282356779733661637539395458142568448,"tiny":7e-46,"least":1e-45,"minus":-7e-46,"tenth":0.1,"exp":1700000000,"huge":1e99999999999999999999,"middle":1.000000059604644775390625,"above":1.0000000596046447753906251}`)
	allowAll(t, v, []string{
		"a = 1", "a = 1.0", "a = 10e-1", "a = 0.1e1", "a = 1.00000001", "a >= 1.00000001", "a <= 1.00000001", "a = 0.99999999", "a < 1.0000001", "a != 1.0000001", "a > 0.9999999", "a > -1",
		"f = 16777216", "f = 16777217", "f = 16777216.5", "f < 16777218", "f <= 16777216", "f >= 16777216", "f != 16777218", "f < 16777219", "f > 16777215",
		"z = 0", "z = -0", "z = 0.0", "z = 0e5", "z <= 0", "z >= 0", "o = -0", "o >= -0", "o <= -0", "z = 1e-999", "z = -1e-999", "o = -1e-999", "o = 7e-46",
		"big = 1e40", "big = 1e99999999999999999999", "big >= 1e40", "big <= 1e40", "big > 3.4e38", "big != -1e40", "big > -1e40", "huge = 1e39", "low = -1e40", "low < -3.4e38", "low < 1e40", "low <= -1e39", "low >= -1e39",
		"over = 1e39", "over > 340282356779733661637539395458142568447", "under < 1e39", "under = 3.4028234663852886e38", "under = 3.4028235e38", "max < 3.4028236e38",
		"tiny = 0", "tiny = -0", "tiny < 1e-45", "least > 0", "least > 7e-46", "least = 7.1e-46", "minus = 0", "minus = 7e-46", "minus >= 0", "minus <= 0",
		"tenth = 0.1", "tenth = 0.100000001490116119384765625", "tenth = 0.10000000149", "tenth != 0.11", "exp = 1700000001", "exp = 1700000063", "exp < 1700000065", "exp > 1699999900",
		"middle = 1", "above > 1", "above = 1.00000011920928955078125", "middle < 1.0000001",
	}, []string{
		"a < 1", "a > 1", "a != 1", "a = 1.0000001", "a != 1.00000001", "a > 1.00000001", "a < 1.00000001", "a = 2", "a <= 0", "a >= 2", "a = -1",
		"f > 16777216", "f < 16777217", "f != 16777216", "f = 16777218", "f >= 16777218", "z < 0", "z > -0", "z != 0", "o > -0", "o != -0", "o > 1e-999", "z < -1e-999",
		"big = -1e40", "big != 1e40", "big > 1e40", "big < 1e40", "big <= 3.4028235e38", "low = 1e40", "low < -1e40", "low > -1e40", "low >= 0", "under = 1e39", "over < 1e39", "over = 3.4028235e38",
		"tiny > 0", "tiny != 0", "least = 0", "least <= 0", "minus < 0", "minus > 0", "minus != 0", "tenth = 0.11", "tenth > 0.1", "tenth < 0.1", "exp != 1700000001", "exp < 1700000001", "exp > 1699999999",
		"middle > 1", "above = 1", "above <= 1",
	})
}

// 25.6 of all pairs of some numbers: = or < is <=, = or > is >=, != the opposite of =, and two numbers changed about.
func TestEveryPair(t *testing.T) {
	t.Parallel()
	for _, x := range someNumbers {
		v := value(t, `{"a":`+x+`}`)
		for _, y := range someNumbers {
			other := value(t, `{"a":`+y+`}`)
			for i, op := range comparisons {
				n := leaf(op, api.Number, y, "a")
				got, _ := holdHolds(t, []api.RuleNode{n}, v)
				holdMeaning(t, []api.RuleNode{n}, v, got)
				turned := []api.RuleOp{api.RuleEqual, api.RuleUnequal, api.RuleMore, api.RuleAtLeast, api.RuleLess, api.RuleAtMost}[i]
				if back, _ := holdHolds(t, []api.RuleNode{leaf(turned, api.Number, x, "a")}, other); back != got {
					t.Errorf("25.3: %s of %s: %v, turned about %v", short(n), x, got, back)
				}
			}
		}
	}
}

// Contains: a part of a string; one of a list's values, whole, and a string.
func TestContains(t *testing.T) {
	t.Parallel()
	v := value(t, `{"s":"hello","e":"","u":"aéb\ud83d\ude00","q":"a\"b\\","l":["x","yz","",["in"],{"k":"v"},1,true,null,"1","é"],"none":[],"nums":[1,2],"o":{"x":"x"},"n":12,"t":true,"f":false,"z":null,"rep":["a","a"],"nested":[["x"]]}`)
	allowAll(t, v, []string{
		`s contains "hello"`, `s contains "h"`, `s contains "o"`, `s contains "ell"`, `s contains "ll"`, `s contains ""`, `e contains ""`, `u contains "é"`, `u contains "\u00e9b"`, `u contains "😀"`, `u contains "\ud83d\ude00"`, `q contains "\""`, `q contains "\\"`, `q contains "a\"b\\"`,
		`l contains "x"`, `l contains "yz"`, `l contains ""`, `l contains "1"`, `l contains "é"`, `l contains "\u0078"`, `l.1 contains "z"`, `l.3 contains "in"`, `rep contains "a"`, `nested.0 contains "x"`, `l.4.k contains "v"`,
	}, []string{
		`s contains "H"`, `s contains "hlo"`, `s contains "hello "`, `s contains "helloo"`, `s contains "l l"`, `e contains " "`, `u contains "e"`, `u contains "e\u0301"`, `u contains "c"`,
		`l contains "y"`, `l contains "z"`, `l contains "in"`, `l contains "k"`, `l contains "v"`, `l contains "true"`, `l contains "null"`, `l contains "X"`, `none contains ""`, `nums contains "1"`, `nums contains ""`, `l contains "xyz"`,
		`o contains "x"`, `o contains ""`, `n contains "1"`, `n contains ""`, `t contains "true"`, `t contains ""`, `f contains "false"`, `z contains "null"`, `z contains ""`, `nested contains "x"`, `gone contains ""`, `l.6 contains ""`,
	})
}

// And, Or, Not as ever: all rules of three tests, of all eight worlds.
func TestTruthTables(t *testing.T) {
	t.Parallel()
	for world := range 8 {
		a, b, c := world&1 != 0, world&2 != 0, world&4 != 0
		v := value(t, fmt.Sprintf(`{"a":%v,"b":%v,"c":%v}`, a, b, c))
		for text, want := range map[string]bool{
			"a and b": a && b, "a or b": a || b, "not a": !a, "not not a": a, "not not not a": !a,
			"a and b and c": a && b && c, "a or b or c": a || b || c, "a or b and c": a || b && c, "a and b or c": a && b || c, "(a or b) and c": (a || b) && c, "a and (b or c)": a && (b || c),
			"not a and b": !a && b, "not (a and b)": !(a && b), "not a or b": !a || b, "not (a or b)": !(a || b), "a and not b": a && !b, "a or not b and c": a || !b && c, "not (not a or not b) and not c": a && b && !c,
			"a and b or not a and c": a && b || !a && c, "(a or not b) and (b or not a)": a == b, "not (a or b or c) or a and b and c": a == b && b == c,
		} {
			text = strings.NewReplacer("and", "and", "or", "or", "not", "not", "a", `a = true`, "b", `b = true`, "c", `c = true`).Replace(text)
			mustAllow(t, want, text, v)
		}
	}
}

// wrongValues: none that rules can be held against.
func wrongValues(t *testing.T) [][]api.Node {
	t.Helper()
	out := [][]api.Node{nil, {}, {{Kind: api.Object, Kids: 1}}, {{Kind: api.Object}, {Kind: api.Object}}, {{Kind: api.Object, Key: "a"}}, {{Kind: api.Object, Text: "a"}}, {{Kind: api.Object, Whole: true}}, {{Kind: api.Object, Kids: -1}}, {{}}, {{Kind: 8}},
		{{Kind: api.Object, Kids: 2}, {Kind: api.Number, Key: "a", Text: "1", Whole: true, Int: 1}, {Kind: api.Null, Key: "a"}},
		{{Kind: api.Object, Kids: 1}, {Kind: api.Number, Key: "a", Text: "1"}}, {{Kind: api.Object, Kids: 1}, {Kind: api.Number, Key: "a", Text: "01"}}, {{Kind: api.Object, Kids: 1}, {Kind: api.String, Key: "a", Text: "\xff"}}, {{Kind: api.Object, Kids: 1}, {Kind: api.Null, Key: "\xff"}}}
	for _, text := range []string{"[]", `["a"]`, `[{"a":1}]`, "1", "-0", `"a"`, `""`, "null", "true", "false"} {
		out = append(out, value(t, text))
	}
	deep := []api.Node{}
	for range api.MaxDepth + 1 {
		deep = append(deep, api.Node{Kind: api.Object, Kids: 1, Key: "a"})
	}
	deep[0].Key, deep[api.MaxDepth].Kids = "", 0
	return append(out, deep)
}

// The order of refusals: the rule, then the value, then what it says.
func TestOrder(t *testing.T) {
	t.Parallel()
	object := value(t, `{"a":1}`)
	badRules := [][]api.RuleNode{nil, {}, {has()}, {has("a"), has("a")}, {has("\xff")}, {{}}, {{Op: api.RuleNot, A: -1, B: -1}}, {leaf(api.RuleEqual, api.Number, "01", "a")}}
	for _, v := range append(wrongValues(t), object) {
		for _, r := range badRules {
			if ok, code := holdHolds(t, r, v); ok || code != api.ErrRule {
				t.Errorf("25.3: Holds(%s, %s): %v, %d", short(r), short(v), ok, int(code))
			}
		}
		for text, want := range map[string]api.Errno{"a =": api.ErrRule, "": api.ErrRule, strings.Repeat("(", 33): api.ErrDeep, strings.Repeat(" ", 1025): api.ErrLarge} {
			if code := holdAllow(t, text, v); code != want {
				t.Errorf("25.4: Allow(%.40q, %s): %d, want %d", text, short(v), int(code), int(want))
			}
		}
	}
	for _, v := range wrongValues(t) {
		for _, r := range [][]api.RuleNode{{has("a")}, not([]api.RuleNode{has("a")}), {leaf(api.RuleEqual, api.Number, "1", "a")}, chain(api.RuleOr, 5, true)} {
			if ok, code := holdHolds(t, r, v); ok || code != api.ErrClaims {
				t.Errorf("25.3: Holds(%s, %s): %v, %d", short(r), short(v), ok, int(code))
			}
		}
		for _, text := range []string{"a = 1", "a = 2", "not a = 2", "has a.0", `a contains "a"`} {
			if code := holdAllow(t, text, v); code != api.ErrClaims {
				t.Errorf("25.4: Allow(%q, %s): %d", text, short(v), int(code))
			}
		}
	}
	for text, want := range map[string]api.Errno{"a = 1": api.OK, "a = 2": api.ErrDenied, "not a = 1": api.ErrDenied, "not a = 2": api.OK, "has b": api.ErrDenied, "has a": api.OK} {
		if code := holdAllow(t, text, object); code != want {
			t.Errorf("25.4: Allow(%q): %d, want %d", text, int(code), int(want))
		}
	}
	if ok, code := holdHolds(t, []api.RuleNode{has("a")}, value(t, "{}")); ok || code != api.OK {
		t.Errorf("25.3: of the empty object: %v, %d", ok, int(code))
	}
	mustAllow(t, true, "not has a", value(t, "{}"))
}

// Paths down to the deepest value there can be, and one further; objects and lists by turns.
func TestDeepValues(t *testing.T) {
	t.Parallel()
	inner, path := `"end"`, ""
	for level := api.MaxDepth; level > 0; level-- {
		if level%2 == 1 {
			inner, path = `{"a":`+inner+`,"b":0}`, ".a"+path
		} else {
			inner, path = `[0,`+inner+`]`, ".1"+path
		}
	}
	v, path := value(t, inner), path[1:]
	allowAll(t, v, []string{"has " + path, path + ` = "end"`, path + ` contains "nd"`, path[:len(path)-1] + "1 = \"end\""}, []string{"has " + path + ".a", "has " + path + ".0", path + " = 1", path[:len(path)-1] + "2 = 0"})
	mustAllow(t, true, path[:len(path)-1]+"0 = 0", v)
	for range 40 {
		path += ".a"
		mustAllow(t, false, "has "+path, v)
	}
}

// Long lists and many members: the first, the last, and one past it.
func TestWideValues(t *testing.T) {
	t.Parallel()
	var list, members []string
	for i := range 20000 {
		list = append(list, fmt.Sprint(i))
		members = append(members, fmt.Sprintf(`"m%d":%d`, i, i))
	}
	wide := `{"l":[` + strings.Join(list, ",") + `],"o":{"x":[[],{}]}}`
	v := value(t, wide)
	for _, i := range []int{0, 1, 9, 10, 99, 100, 9999, 10000, 19998, 19999} {
		mustAllow(t, true, fmt.Sprintf("l.%d = %d and not l.%d = %d", i, i, i, i+1), v)
	}
	mustAllow(t, false, "has l.20000", v)
	mustAllow(t, false, "has l.199990", v)
	v = value(t, "{"+strings.Join(members[:15000], ",")+"}")
	mustAllow(t, true, "m0 = 0 and m14999 = 14999 and not has m15000 and m7 = 7", v)
	mustAllow(t, false, "has m", v)
}

// Rules that Print and Parse have never seen hold all the same: parts and texts longer than MaxRule.
func TestBeyondTexts(t *testing.T) {
	t.Parallel()
	long := strings.Repeat("x", 3*api.MaxRule)
	v, code, _ := json.Parse(`{"` + long + `":{"a":"` + long + `y"}}`)
	if code != api.OK {
		t.Fatal(code)
	}
	for _, c := range []struct {
		n    api.RuleNode
		want bool
	}{
		{has(long), true}, {has(long + "x"), false}, {has(long, "a"), true}, {leaf(api.RuleEqual, api.String, long+"y", long, "a"), true}, {leaf(api.RuleEqual, api.String, long, long, "a"), false}, {leaf(api.RuleUnequal, api.String, long, long, "a"), true}, {leaf(api.RuleContains, api.String, long, long, "a"), true}, {leaf(api.RuleContains, api.String, "y"+long, long, "a"), false},
	} {
		if got, code := holdHolds(t, []api.RuleNode{c.n}, v); got != c.want || code != api.OK {
			t.Errorf("25.3: %v, %d", got, int(code))
		}
		if text, code := rules.Print([]api.RuleNode{c.n}); text != "" || code != api.ErrRule {
			t.Errorf("25.2: %d bytes, %d", len(text), int(code))
		}
	}
}
