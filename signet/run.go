package signet

import (
	"strconv"
	"strings"

	"signet/api"
	"signet/gate"
	"signet/json"
)

// run: a script under way: what its lines have set, and what they were answered.
type run struct {
	policy  api.Policy
	front   *gate.Gate // nil until a line opens one
	answers strings.Builder
}

func (r *run) line(text string) {
	name, values, ok := read(text)
	if !ok {
		r.tell(noLine)
		return
	}
	w, ok := wordOf(name)
	if !ok || !w.fits(values) || w.gated && r.front == nil {
		r.tell(noLine)
		return
	}
	w.does(r, values)
}

// tell: one line of the answer.
func (r *run) tell(pieces ...string) {
	r.answers.WriteString(strings.Join(pieces, " ") + "\n")
}

func (r *run) tellCode(code api.Errno) {
	if code == api.OK {
		r.tell("ok")
		return
	}
	r.tell(refusal(code))
}

// tellClaims: a token's, if it was taken, and the kids, if it tells some.
func (r *run) tellClaims(c api.Claims, kids []string, code api.Errno) {
	if code != api.OK {
		r.tellCode(code)
		return
	}
	pieces := []string{"ok", printed(c.Value)}
	for _, kid := range kids {
		pieces = append(pieces, quoted(kid))
	}
	r.tell(pieces...)
}

func refusal(code api.Errno) string { return "refused " + strconv.Itoa(int(code)) }

// printed: a value's text. Each that is told here was read by json, or is short: there is none that Print refuses.
func printed(v []api.Node) string {
	text, _ := json.Print(v)
	return text
}

func quoted(text string) string { return printed([]api.Node{{Kind: api.String, Text: text}}) }
