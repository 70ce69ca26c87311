package rules_test

import (
	"regexp"
	"slices"
	"strconv"
	"strings"
	"unicode/utf8"

	"signet/api"
	"signet/json"
)

// The chapter's words, taken slowly: what the package is held against. A text is read by what may stand next and a stack of what is open, a rule is gone through from its root down, and a value is Go's maps and lists.

const reserved = " and or not has contains true false null "

var (
	nameForm   = regexp.MustCompile(`\A[A-Za-z_][A-Za-z0-9_]*\z`)
	placeForm  = regexp.MustCompile(`\A(0|[1-9][0-9]*)\z`)
	numberForm = regexp.MustCompile(`\A-?(0|[1-9][0-9]*)(\.[0-9]+)?([eE][+-]?[0-9]+)?\z`)

	blankRow  = regexp.MustCompile("\\A[\x20\x09\x0a\x0d]*")
	nameRow   = regexp.MustCompile(`\A[A-Za-z_][A-Za-z0-9_]*`)
	placeRow  = regexp.MustCompile(`\A[0-9]+`)
	numberRow = regexp.MustCompile(`\A[0-9-][0-9.eE+-]*`)
	stringRow = regexp.MustCompile(`(?s)\A"([^"\\]|\\.)*"`)
	signRow   = regexp.MustCompile(`\A(!=|<=|>=|[=<>().])`)
)

var signOps = map[string]api.RuleOp{"=": api.RuleEqual, "!=": api.RuleUnequal, "<": api.RuleLess, "<=": api.RuleAtMost, ">": api.RuleMore, ">=": api.RuleAtLeast}

func isNameText(part string) bool {
	return nameForm.MatchString(part) && !strings.Contains(reserved, " "+part+" ")
}

// state: what may stand next.
type state int

const (
	anAtom state = iota
	firstPart
	laterPart
	behindPart
	aValue
	aString
	aJoint
)

type fault struct {
	code api.Errno
	at   int
}

// machine: the open brackets, nots, ands and ors, and the roots that wait to be operands.
type machine struct {
	text  string
	at    int
	state state
	stack []string
	roots []int
	out   []api.RuleNode
	leaf  api.RuleNode
	isHas bool
}

// wantParse: the rule, or the first fault.
func wantParse(text string) (rule []api.RuleNode, f fault) {
	if len(text) > 1024 {
		return nil, fault{api.ErrLarge, 0}
	}
	defer func() {
		if x := recover(); x != nil {
			rule, f = nil, x.(fault)
		}
	}()
	m := &machine{text: text}
	for {
		m.at += len(blankRow.FindString(m.text[m.at:]))
		if m.at == len(text) {
			m.end()
			return m.out, fault{}
		}
		m.at += len(m.word())
	}
}

func (m *machine) wrong() { panic(fault{api.ErrRule, m.at}) }

// end: the text ends here.
func (m *machine) end() {
	if m.state == behindPart && m.isHas {
		m.emitLeaf()
	}
	if m.state != aJoint {
		m.wrong()
	}
	m.reduce("and", "or")
	if len(m.stack) > 0 {
		m.wrong()
	}
}

// peek: the row of the form that stands next; empty, if none.
func (m *machine) peek(form *regexp.Regexp) string { return form.FindString(m.text[m.at:]) }

// word takes the next word, and answers it.
func (m *machine) word() string {
	switch m.state {
	case anAtom:
		return m.atom()
	case firstPart, laterPart:
		return m.part()
	case behindPart:
		return m.relation()
	case aValue, aString:
		return m.value()
	}
	return m.joint()
}

func (m *machine) atom() string {
	w := m.peek(nameRow)
	if m.peek(signRow) == "(" {
		w = "("
	}
	switch w {
	case "not", "(":
		open := 0
		for _, s := range m.stack {
			if s == "not" || s == "(" {
				open++
			}
		}
		if open >= 32 {
			panic(fault{api.ErrDeep, m.at})
		}
		m.stack = append(m.stack, w)
		return w
	case "has":
		m.leaf, m.isHas, m.state = api.RuleNode{Op: api.RuleHas}, true, firstPart
		return w
	}
	m.leaf, m.isHas, m.state = api.RuleNode{}, false, firstPart
	return m.part()
}

// str: the string that stands next, and what it says.
func (m *machine) str() (string, string) {
	w := m.peek(stringRow)
	v, code, _ := json.Parse(w)
	if w == "" || code != api.OK {
		m.wrong()
	}
	return w, v[0].Text
}

func (m *machine) part() string {
	w := m.peek(nameRow)
	said := w
	switch {
	case m.text[m.at] == '"':
		w, said = m.str()
	case m.state == laterPart && m.peek(placeRow) != "":
		w = m.peek(placeRow)
		said = w
		if !placeForm.MatchString(w) {
			m.wrong()
		}
	case !isNameText(w):
		m.wrong()
	}
	m.leaf.Path = append(m.leaf.Path, said)
	m.state = behindPart
	return w
}

// relation: a dot, or what stands between path and value; behind a has, what follows an atom.
func (m *machine) relation() string {
	sign := m.peek(signRow)
	switch {
	case sign == ".":
		m.state = laterPart
		return sign
	case m.isHas:
		m.emitLeaf()
		return m.joint()
	case m.peek(nameRow) == "contains":
		m.leaf.Op, m.state = api.RuleContains, aString
		return "contains"
	}
	op, ok := signOps[sign]
	if !ok {
		m.wrong()
	}
	m.leaf.Op, m.state = op, aValue
	return sign
}

func (m *machine) value() string {
	w := m.peek(nameRow)
	literals := map[string]api.Kind{"true": api.True, "false": api.False, "null": api.Null}
	switch {
	case m.text[m.at] == '"':
		m.leaf.Value = api.String
		w, m.leaf.Text = m.str()
	case m.state == aString:
		m.wrong()
	case m.peek(numberRow) != "":
		w = m.peek(numberRow)
		m.leaf.Value, m.leaf.Text = api.Number, w
		if !numberForm.MatchString(w) {
			m.wrong()
		}
	case literals[w] != 0:
		m.leaf.Value = literals[w]
	default:
		m.wrong()
	}
	m.emitLeaf()
	return w
}

func (m *machine) joint() string {
	w := m.peek(nameRow)
	switch {
	case w == "and":
		m.reduce("and")
	case w == "or":
		m.reduce("and", "or")
	case m.peek(signRow) == ")":
		m.reduce("and", "or")
		if len(m.stack) == 0 {
			m.wrong()
		}
		m.stack = m.stack[:len(m.stack)-1]
		m.reduce("not")
		return ")"
	default:
		m.wrong()
	}
	m.stack, m.state = append(m.stack, w), anAtom
	return w
}

func (m *machine) emitLeaf() {
	m.leaf.A, m.leaf.B = -1, -1
	m.emit(m.leaf)
	m.reduce("not")
	m.state = aJoint
}

func (m *machine) emit(n api.RuleNode) {
	m.out = append(m.out, n)
	m.roots = append(m.roots, len(m.out)-1)
}

// reduce: whatever of these stands on top of the stack has its operands.
func (m *machine) reduce(words ...string) {
	for len(m.stack) > 0 && slices.Contains(words, m.stack[len(m.stack)-1]) {
		w := m.stack[len(m.stack)-1]
		m.stack = m.stack[:len(m.stack)-1]
		n := api.RuleNode{Op: api.RuleNot, B: -1}
		if w != "not" {
			n.Op = map[string]api.RuleOp{"and": api.RuleAnd, "or": api.RuleOr}[w]
			n.B = m.roots[len(m.roots)-1]
			m.roots = m.roots[:len(m.roots)-1]
		}
		n.A = m.roots[len(m.roots)-1]
		m.roots = m.roots[:len(m.roots)-1]
		m.emit(n)
	}
}

// wantShaped: the tree from the root down takes all nodes, and each has what the chapter says.
func wantShaped(r []api.RuleNode) bool {
	if len(r) == 0 || firstOf(r, len(r)-1) != 0 {
		return false
	}
	for _, n := range r {
		isJoint := n.Op == api.RuleAnd || n.Op == api.RuleOr || n.Op == api.RuleNot
		if n.Op < 1 || n.Op > api.RuleContains || isJoint != (len(n.Path) == 0) {
			return false
		}
		if slices.ContainsFunc(n.Path, func(p string) bool { return !utf8.ValidString(p) }) {
			return false
		}
		fits := false
		switch {
		case isJoint || n.Op == api.RuleHas:
			fits = n.Value == 0 && n.Text == ""
		case n.Value == api.String:
			fits = utf8.ValidString(n.Text)
		case n.Op == api.RuleContains:
		case n.Value == api.Number:
			fits = numberForm.MatchString(n.Text)
		default:
			fits = (n.Value == api.True || n.Value == api.False || n.Value == api.Null) && n.Text == ""
		}
		if !fits {
			return false
		}
	}
	return true
}

// firstOf: where the tree begins whose root is at the place; -1, if there is none.
func firstOf(r []api.RuleNode, at int) int {
	if at < 0 {
		return -1
	}
	switch n := r[at]; n.Op {
	case api.RuleAnd, api.RuleOr:
		if n.B != at-1 {
			return -1
		}
		first := firstOf(r, n.B)
		if first < 0 || n.A != first-1 {
			return -1
		}
		return firstOf(r, n.A)
	case api.RuleNot:
		if n.A != at-1 || n.B != -1 {
			return -1
		}
		return firstOf(r, n.A)
	default:
		if n.A != -1 || n.B != -1 {
			return -1
		}
		return at
	}
}

// notEnds stands among the words where what a not says has ended.
const notEnds = ""

// wantText: the canonical text of a well shaped rule, however long, and how many brackets and nots are open in it at most.
func wantText(r []api.RuleNode) (string, int) {
	var text strings.Builder
	before, open, most := "(", 0, 0
	for _, w := range wantWords(r, len(r)-1) {
		switch w {
		case "(", "not":
			open++
			most = max(most, open)
		case ")", notEnds:
			open--
		}
		if w == notEnds {
			continue
		}
		if before != "(" && before != "." && w != ")" && w != "." {
			text.WriteByte(' ')
		}
		text.WriteString(w)
		before = w
	}
	return text.String(), most
}

// wantWords: the words, and notEnds.
func wantWords(r []api.RuleNode, at int) []string {
	n := r[at]
	operand := func(place int, bracketed bool) []string {
		if bracketed {
			return slices.Concat([]string{"("}, wantWords(r, place), []string{")"})
		}
		return wantWords(r, place)
	}
	is := func(place int, op api.RuleOp) bool { return r[place].Op == op }
	switch n.Op {
	case api.RuleOr:
		return slices.Concat(operand(n.A, false), []string{"or"}, operand(n.B, is(n.B, api.RuleOr)))
	case api.RuleAnd:
		return slices.Concat(operand(n.A, is(n.A, api.RuleOr)), []string{"and"}, operand(n.B, is(n.B, api.RuleOr) || is(n.B, api.RuleAnd)))
	case api.RuleNot:
		return slices.Concat([]string{"not"}, operand(n.A, is(n.A, api.RuleOr) || is(n.A, api.RuleAnd)), []string{notEnds})
	case api.RuleHas:
		return append([]string{"has"}, wantPath(n.Path)...)
	case api.RuleContains:
		return append(wantPath(n.Path), "contains", wantQuoted(n.Text))
	}
	for sign, op := range signOps {
		if op == n.Op {
			value := map[api.Kind]string{api.Number: n.Text, api.String: wantQuoted(n.Text), api.True: "true", api.False: "false", api.Null: "null"}[n.Value]
			return append(wantPath(n.Path), sign, value)
		}
	}
	panic("no rule to test with")
}

func wantPath(path []string) []string {
	var words []string
	for i, part := range path {
		if i > 0 {
			words = append(words, ".")
		}
		if !isNameText(part) && (i == 0 || !placeForm.MatchString(part)) {
			part = wantQuoted(part)
		}
		words = append(words, part)
	}
	return words
}

var escapes = strings.NewReplacer(escapePairs()...)

func escapePairs() []string {
	pairs := []string{`"`, `\"`, `\`, `\\`, "\x08", `\b`, "\x0c", `\f`, "\x0a", `\n`, "\x0d", `\r`, "\x09", `\t`}
	for b := range byte(32) {
		code := "000" + strconv.FormatInt(int64(b), 16)
		pairs = append(pairs, string(rune(b)), `\u`+code[len(code)-4:])
	}
	return pairs
}

func wantQuoted(text string) string { return `"` + escapes.Replace(text) + `"` }

func wantPrint(r []api.RuleNode) (string, api.Errno) {
	if !wantShaped(r) {
		return "", api.ErrRule
	}
	text, most := wantText(r)
	if len(text) > 1024 || most > 32 {
		return "", api.ErrRule
	}
	return text, api.OK
}

// number: a number's text in a value of Go's.
type number string

// goValue: the value that begins at the place, and the place behind it.
func goValue(v []api.Node, at int) (any, int) {
	n := v[at]
	at++
	switch n.Kind {
	case api.List:
		list := []any{}
		for range n.Kids {
			var one any
			one, at = goValue(v, at)
			list = append(list, one)
		}
		return list, at
	case api.Object:
		object := map[string]any{}
		for range n.Kids {
			key := v[at].Key
			object[key], at = goValue(v, at)
		}
		return object, at
	case api.Number:
		return number(n.Text), at
	case api.String:
		return n.Text, at
	case api.Null:
		return nil, at
	}
	return n.Kind == api.True, at
}

func wantHolds(r []api.RuleNode, v []api.Node) (bool, api.Errno) {
	if !wantShaped(r) {
		return false, api.ErrRule
	}
	if !json.Shaped(v) {
		return false, api.ErrClaims
	}
	object, _ := goValue(v, 0)
	if _, ok := object.(map[string]any); !ok {
		return false, api.ErrClaims
	}
	return wantTruth(r, len(r)-1, object), api.OK
}

func wantTruth(r []api.RuleNode, at int, object any) bool {
	n := r[at]
	switch n.Op {
	case api.RuleAnd:
		return wantTruth(r, n.A, object) && wantTruth(r, n.B, object)
	case api.RuleOr:
		return wantTruth(r, n.A, object) || wantTruth(r, n.B, object)
	case api.RuleNot:
		return !wantTruth(r, n.A, object)
	}
	x, found := wantLead(n.Path, object)
	switch {
	case !found:
		return false
	case n.Op == api.RuleHas:
		return true
	case n.Op == api.RuleContains:
		if s, ok := x.(string); ok {
			return strings.Contains(s, n.Text)
		}
		list, _ := x.([]any)
		return slices.ContainsFunc(list, func(one any) bool { s, ok := one.(string); return ok && s == n.Text })
	}
	return wantCompare(n, x)
}

func wantCompare(n api.RuleNode, x any) bool {
	same := false
	switch x := x.(type) {
	case number:
		if n.Value != api.Number {
			return false
		}
		return wantNumbers(n.Op, string(x), n.Text)
	case string:
		if n.Value != api.String {
			return false
		}
		same = x == n.Text
	case bool:
		if n.Value != map[bool]api.Kind{false: api.False, true: api.True}[x] {
			return false
		}
		same = true
	case nil:
		if n.Value != api.Null {
			return false
		}
		same = true
	default:
		return false
	}
	return n.Op == api.RuleEqual && same || n.Op == api.RuleUnequal && !same
}

// wantNumbers: by the floats that Go reads.
func wantNumbers(op api.RuleOp, one, two string) bool {
	x, _ := strconv.ParseFloat(one, 32)
	y, _ := strconv.ParseFloat(two, 32)
	return map[api.RuleOp]bool{
		api.RuleEqual:   x == y,
		api.RuleUnequal: x != y,
		api.RuleLess:    x < y,
		api.RuleAtMost:  x <= y,
		api.RuleMore:    x > y,
		api.RuleAtLeast: x >= y,
	}[op]
}

func wantLead(path []string, x any) (any, bool) {
	for _, part := range path {
		switch y := x.(type) {
		case map[string]any:
			next, ok := y[part]
			if !ok {
				return nil, false
			}
			x = next
		case []any:
			place := slices.Index(placeTexts(len(y)), part)
			if place < 0 {
				return nil, false
			}
			x = y[place]
		default:
			return nil, false
		}
	}
	return x, true
}

// placeTexts: how the places of so many values are written.
func placeTexts(count int) []string {
	var l []string
	for i := range count {
		l = append(l, strconv.Itoa(i))
	}
	return l
}

func wantAllow(text string, v []api.Node) api.Errno {
	r, f := wantParse(text)
	if f.code != api.OK {
		return f.code
	}
	holds, code := wantHolds(r, v)
	if code == api.OK && !holds {
		return api.ErrDenied
	}
	return code
}
