package json

import (
	"strings"

	"signet/api"
)

// writer: a text that grows as far as it may.
type writer struct {
	text  []byte
	large bool
}

// put: what would be too large is not laid out: nodes may say far more than a text may hold.
func (w *writer) put(piece string) {
	if len(w.text)+len(piece) > api.MaxKeys {
		w.large = true
	}
	if !w.large {
		w.text = append(w.text, piece...)
	}
}

// value puts the value that begins at the place, and answers the place behind it. The nodes are well shaped: no deeper than MaxDepth.
func (w *writer) value(v []api.Node, at int) int {
	switch n := v[at]; n.Kind {
	case api.Null:
		w.put("null")
	case api.False:
		w.put("false")
	case api.True:
		w.put("true")
	case api.Number:
		w.put(n.Text)
	case api.String:
		w.quote(n.Text)
	case api.List:
		return w.inner(v, at, "[", "]")
	case api.Object:
		return w.inner(v, at, "{", "}")
	}
	return at + 1
}

// inner puts a list or an object.
func (w *writer) inner(v []api.Node, at int, opening, closing string) int {
	w.put(opening)
	behind := at + 1
	for i := range v[at].Kids {
		if i > 0 {
			w.put(",")
		}
		if v[at].Kind == api.Object {
			w.quote(v[behind].Key)
			w.put(":")
		}
		behind = w.value(v, behind)
	}
	w.put(closing)
	return behind
}

func (w *writer) quote(text string) {
	w.put(`"`)
	from := 0
	for at := range len(text) {
		if e := escaped(text[at]); e != "" {
			w.put(text[from:at])
			w.put(e)
			from = at + 1
		}
	}
	w.put(text[from:])
	w.put(`"`)
}

// escaped: how a byte is spelled that can't stand as it is; empty, if it can.
func escaped(b byte) string {
	if i := strings.IndexByte(escapedBytes, b); i >= 0 {
		return `\` + escapeLetters[i:i+1]
	}
	if b < ' ' {
		return `\u00` + smallDigits[b>>4:b>>4+1] + smallDigits[b&15:b&15+1]
	}
	return ""
}
