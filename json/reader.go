package json

import (
	"strings"

	"signet/api"
)

// await: what may stand next, blanks left aside.
type await int

const (
	valueOrEnd await = iota
	aValue
	nameOrEnd
	aName
	aColon
	commaOrBracket
	commaOrBrace
	nothing
)

const blanks = " \t\n\r"

// reader: a text, read up to a place. Its methods answer false once a fault is met, which code and place tell then.
type reader struct {
	text   string
	at     int
	awaits await
	nodes  []api.Node
	open   []int  // the places of the lists and objects that are not closed yet
	key    string // the name of the value that comes next
	met    names
	code   api.Errno
	place  int
}

func (r *reader) fail(code api.Errno, place int) bool {
	r.code, r.place = code, place
	return false
}

// wrong: no JSON text goes on with the next byte, or ends here.
func (r *reader) wrong() bool { return r.fail(api.ErrJson, r.at) }

// take: the next byte is passed by, if it is in the set.
func (r *reader) take(set string) bool {
	if r.at == len(r.text) || strings.IndexByte(set, r.text[r.at]) < 0 {
		return false
	}
	r.at++
	return true
}

func (r *reader) read() bool {
	for {
		for r.take(blanks) {
		}
		if r.at == len(r.text) {
			return r.awaits == nothing || r.wrong()
		}
		if !r.word() {
			return false
		}
	}
}

// word reads what is awaited, up to the next place where blanks may stand.
func (r *reader) word() bool {
	switch r.awaits {
	case valueOrEnd:
		if r.take("]") {
			return r.close()
		}
		fallthrough
	case aValue:
		return r.value()
	case nameOrEnd:
		if r.take("}") {
			return r.close()
		}
		fallthrough
	case aName:
		return r.name()
	case aColon:
		return r.mark(":", aValue)
	case commaOrBracket:
		if r.take("]") {
			return r.close()
		}
		return r.mark(",", aValue)
	case commaOrBrace:
		if r.take("}") {
			return r.close()
		}
		return r.mark(",", aName)
	}
	return r.wrong()
}

// mark: a sign that must stand here, and what is awaited behind it.
func (r *reader) mark(sign string, awaits await) bool {
	if !r.take(sign) {
		return r.wrong()
	}
	r.awaits = awaits
	return true
}

func (r *reader) value() bool {
	switch r.text[r.at] {
	case '{':
		return r.begin(api.Object, nameOrEnd)
	case '[':
		return r.begin(api.List, valueOrEnd)
	case '"':
		text, ok := r.quoted()
		return ok && r.add(api.Node{Kind: api.String, Text: text})
	case 'n':
		return r.literal("null") && r.add(api.Node{Kind: api.Null})
	case 'f':
		return r.literal("false") && r.add(api.Node{Kind: api.False})
	case 't':
		return r.literal("true") && r.add(api.Node{Kind: api.True})
	}
	text, ok := r.number()
	return ok && r.add(numberNode(text))
}

func (r *reader) name() bool {
	place := r.at
	if r.text[place] != '"' {
		return r.wrong()
	}
	key, ok := r.quoted()
	if !ok {
		return false
	}
	if !r.met.first(r.innermost(), key) {
		return r.fail(api.ErrTwice, place)
	}
	r.key, r.awaits = key, aColon
	return true
}

// innermost: the place of the list or object that was opened last of those that are open.
func (r *reader) innermost() int { return r.open[len(r.open)-1] }

func (r *reader) begin(kind api.Kind, awaits await) bool {
	if len(r.open) == api.MaxDepth {
		return r.fail(api.ErrDeep, r.at)
	}
	r.at++
	r.add(api.Node{Kind: kind})
	r.open = append(r.open, len(r.nodes)-1)
	r.awaits = awaits
	return true
}

// add lays a node behind the others, in what is open.
func (r *reader) add(n api.Node) bool {
	n.Key, r.key = r.key, ""
	r.nodes = append(r.nodes, n)
	if len(r.open) > 0 {
		r.nodes[r.innermost()].Kids++
	}
	return r.ended()
}

func (r *reader) close() bool {
	r.open = r.open[:len(r.open)-1]
	return r.ended()
}

// ended: what is awaited behind a value. Like add and close it answers true: nothing can be wrong there.
func (r *reader) ended() bool {
	switch {
	case len(r.open) == 0:
		r.awaits = nothing
	case r.nodes[r.innermost()].Kind == api.List:
		r.awaits = commaOrBracket
	default:
		r.awaits = commaOrBrace
	}
	return true
}
