package claims_test

import (
	"fmt"
	"slices"
	"strings"
	"testing"

	"signet/api"
	"signet/claims"
)

func parsed(t *testing.T, payload string) api.Claims {
	t.Helper()
	c, code := holdParse(t, payload)
	if code != api.OK {
		t.Fatalf("Parse(%s) = %d", short(payload), int(code))
	}
	return c
}

// Every choice of what is wanted, and of what is there: the first that applies is told.
func TestOrder(t *testing.T) {
	t.Parallel()
	met := map[api.Errno]int{}
	for _, iss := range []string{"", `"iss":"i"`, `"iss":"j"`, `"iss":""`} {
		for _, aud := range []string{"", `"aud":"a"`, `"aud":"b"`, `"aud":["b","a"]`, `"aud":[]`, `"aud":""`, `"aud":["b",""]`} {
			for _, more := range []string{"", `"exp":1`, `"x":null`} {
				members := slices.DeleteFunc([]string{iss, aud, more}, func(s string) bool { return s == "" })
				c := parsed(t, "{"+strings.Join(members, ",")+"}")
				for mask := range 4 {
					for _, need := range [][]string{nil, {}, {"exp"}, {"x"}, {"exp", "x"}, {"iss"}, {"aud", "iss"}, {""}} {
						for _, wanted := range [][2]string{{"i", "a"}, {"", ""}, {"j", "b"}} {
							p := api.Policy{Iss: wanted[0], HasIss: mask&1 != 0, Aud: wanted[1], HasAud: mask&2 != 0, Need: need}
							met[holdCheck(t, c, p)]++
						}
					}
				}
			}
		}
	}
	for _, code := range []api.Errno{api.OK, api.ErrMissing, api.ErrIss, api.ErrAud} {
		if met[code] < 100 {
			t.Fatalf("only %d of %d", met[code], int(code))
		}
	}
	none := parsed(t, `{"aud":"q"}`)
	mustCheck(t, api.ErrMissing, none, api.Policy{HasIss: true, Iss: "a", Need: []string{"aud", "exp"}})
	mustCheck(t, api.ErrIss, none, api.Policy{HasIss: true, Iss: "a", Need: []string{"aud"}})
	mustCheck(t, api.ErrAud, none, api.Policy{Need: []string{"aud"}})
	mustCheck(t, api.OK, none, api.Policy{HasAud: true, Aud: "q", Need: []string{"aud"}})
}

// Needed names: all of them, once or more, each a member of the object itself.
func TestNeed(t *testing.T) {
	t.Parallel()
	c := parsed(t, `{"a":null,"b":{"c":1,"":2},"d":["e"],"é":"f","\u0000":0}`)
	for _, need := range [][]string{{"a"}, {"b", "a"}, {"a", "a", "a"}, {"é"}, {"\x00"}, {"d", "b", "a", "é", "\x00"}} {
		mustCheck(t, api.OK, c, api.Policy{Need: need})
	}
	for _, name := range []string{"", "c", "e", "f", "A", "a ", "aa", "e\u0301", "\xc3", "\xff", "exp", "b.c", "0"} {
		mustCheck(t, api.ErrMissing, c, api.Policy{Need: []string{name}})
		mustCheck(t, api.ErrMissing, c, api.Policy{Need: []string{"a", "b", name}})
		mustCheck(t, api.ErrMissing, c, api.Policy{Need: []string{name, "a"}})
	}
	mustCheck(t, api.OK, parsed(t, `{"":1}`), api.Policy{Need: []string{""}})
}

// What is needed is asked of the value, what is wanted of the fields, though they do not agree.
func TestByHand(t *testing.T) {
	t.Parallel()
	empty := []api.Node{{Kind: api.Object}}
	both := []api.Node{{Kind: api.Object, Kids: 2}, {Kind: api.String, Key: "iss", Text: "i"}, {Kind: api.String, Key: "aud", Text: "a"}}
	wants := api.Policy{HasIss: true, Iss: "i", HasAud: true, Aud: "a"}
	needs := api.Policy{Need: []string{"iss", "aud"}}
	mustCheck(t, api.OK, api.Claims{Value: empty, Iss: "i", HasIss: true, Aud: []string{"a"}, HasAud: true}, wants)
	mustCheck(t, api.ErrMissing, api.Claims{Value: empty, Iss: "i", HasIss: true, Aud: []string{"a"}}, needs)
	mustCheck(t, api.OK, api.Claims{Value: both}, needs)
	mustCheck(t, api.ErrIss, api.Claims{Value: both}, wants)
	// A field that is not there counts for nothing, whatever it says.
	mustCheck(t, api.ErrIss, api.Claims{Value: both, Iss: "i", Aud: []string{"a"}, HasAud: true}, wants)
	mustCheck(t, api.ErrAud, api.Claims{Value: both, Iss: "i", HasIss: true, Aud: []string{"a"}}, wants)
	mustCheck(t, api.OK, api.Claims{Value: both, Iss: "x", Aud: []string{"x"}}, api.Policy{Iss: "i", Aud: "a"})
	mustCheck(t, api.ErrAud, api.Claims{Value: both, HasAud: true}, api.Policy{})
	mustCheck(t, api.ErrAud, api.Claims{Value: both, HasAud: true}, api.Policy{HasAud: true})
	mustCheck(t, api.OK, api.Claims{Value: both, HasIss: true, HasAud: true, Aud: []string{"b", ""}}, api.Policy{HasAud: true, HasIss: true})
}

// A value that is no object has no member, of whatever name.
func TestNoMembers(t *testing.T) {
	t.Parallel()
	for _, v := range [][]api.Node{
		{{Kind: api.Null}}, {{Kind: api.True}}, {{Kind: api.False}}, {{Kind: api.Number, Text: "1", Whole: true, Int: 1}}, {{Kind: api.String, Text: "a"}}, {{Kind: api.List}},
		{{Kind: api.List, Kids: 1}, {Kind: api.String, Text: "a"}},
		{{Kind: api.List, Kids: 1}, {Kind: api.Object, Kids: 1}, {Kind: api.Null, Key: "a"}},
	} {
		c := api.Claims{Value: v, HasIss: true, Iss: "a"}
		for _, name := range []string{"", "a", "iss"} {
			mustCheck(t, api.ErrMissing, c, api.Policy{Need: []string{name}, HasIss: true, Iss: "a"})
		}
		mustCheck(t, api.OK, c, api.Policy{HasIss: true, Iss: "a"})
		mustCheck(t, api.ErrIss, c, api.Policy{Need: []string{}, HasIss: true, Iss: "b"})
	}
}

// Texts are the same byte by byte.
func TestBytes(t *testing.T) {
	t.Parallel()
	texts := []string{"", "a", "A", "a ", "aa", "a\x00", "é", "e\u0301", "\xff", "\xfe", "https://a.example", "https://a.example/", strings.Repeat("a", 70000), strings.Repeat("a", 70001)}
	for i, one := range texts {
		for j, two := range texts {
			iss, aud := api.OK, api.OK
			if i != j {
				iss, aud = api.ErrIss, api.ErrAud
			}
			c := api.Claims{Value: []api.Node{{Kind: api.Object}}, Iss: one, HasIss: true}
			mustCheck(t, iss, c, api.Policy{Iss: two, HasIss: true})
			for _, l := range [][]string{{one}, {one, one}, {"other", one}, {one, "other"}} {
				c.Aud, c.HasAud = l, true
				mustCheck(t, aud, c, api.Policy{Aud: two, HasAud: true})
			}
		}
	}
}

// Nothing else of the claims, and nothing else of the policy, counts.
func TestNothingElse(t *testing.T) {
	t.Parallel()
	c := parsed(t, `{"iss":"i","sub":"s","jti":"j","exp":0,"nbf":9223372036854775807,"iat":9223372036854775807}`)
	for _, leeway := range []int64{low, -1, 0, 600, 601, high} {
		for _, has := range []bool{true, false} {
			p := api.Policy{Algs: []string{"none"}, Iss: "i", HasIss: true, Typ: "t", HasTyp: has, Leeway: leeway}
			mustCheck(t, api.OK, c, p)
			p.Iss = "s"
			mustCheck(t, api.ErrIss, c, p)
		}
	}
}

// Many needed names over many members end soon.
func TestManyNeeds(t *testing.T) {
	t.Parallel()
	var members, need []string
	for i := range 20000 {
		members = append(members, fmt.Sprintf(`"%d":0`, i))
		need = append(need, fmt.Sprint(i))
	}
	c := parsed(t, "{"+strings.Join(members, ",")+"}")
	for range 3 {
		need = append(need, need...)
	}
	for _, k := range []struct {
		need []string
		want api.Errno
	}{{need, api.OK}, {append(need, "20000"), api.ErrMissing}} {
		if code := claims.Check(c, api.Policy{Need: k.need}); code != k.want {
			t.Fatalf("19.2: %d names: %d, want %d", len(k.need), int(code), int(k.want))
		}
	}
}
