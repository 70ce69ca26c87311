package signet

import (
	"strconv"

	"signet/api"
	"signet/b64"
	"signet/gate"
	"signet/json"
	"signet/jwk"
	"signet/jwt"
	"signet/keyset"
	"signet/rules"
	"signet/serial"
	"signet/sha"
	"signet/spki"
)

// What the words do. Each method is called with values that fit its word, and, if the word wants a gate, with one.

func (r *run) setPolicy(values []api.Node) {
	p, code := Policy(values[0].Text)
	if code == api.OK {
		r.policy = p
	}
	r.tellCode(code)
}

func (r *run) verify(values []api.Node) {
	c, code := jwt.Verify(values[0].Text, values[1].Text, r.policy, values[2].Int)
	r.tellClaims(c, nil, code)
}

func (r *run) judge(values []api.Node) {
	_, open, code := jwt.Judge(values[0].Text, values[1].Text, r.policy)
	switch {
	case code != api.OK:
		r.tellCode(code)
	case open.Empty:
		r.tell("never")
	default:
		r.tell("window", strconv.FormatInt(open.From, 10), strconv.FormatInt(open.To, 10))
	}
}

func (r *run) thumb(values []api.Node) {
	entries, code := keyset.Parse(values[0].Text)
	if code != api.OK {
		r.tellCode(code)
		return
	}
	for _, x := range entries {
		r.tellThumb(x)
	}
	r.tell("ok")
}

func (r *run) tellThumb(x api.Entry) {
	k, code := jwk.Read(x.Value, 0)
	if code != api.OK {
		r.tellCode(code)
		return
	}
	text, _ := jwk.Thumbprint(k) // no code but OK: what Read answers is right
	r.tell("key", text)
}

func (r *run) pem(values []api.Node) {
	text, code := pemOf(values[0].Text, values[1].Text)
	if code != api.OK {
		r.tellCode(code)
		return
	}
	r.tell("pem", quoted(text))
}

// pemOf: that of the one key of the kid.
func pemOf(keys, kid string) (string, api.Errno) {
	entries, code := keyset.Parse(keys)
	if code != api.OK {
		return "", code
	}
	x, code := keyset.Find(entries, kid)
	if code != api.OK {
		return "", code
	}
	k, code := jwk.Read(x.Value, 0)
	if code != api.OK {
		return "", code
	}
	return spki.Pem(k)
}

func (r *run) key(values []api.Node) {
	k, code := spki.Unpem(values[0].Text)
	if code != api.OK {
		r.tellCode(code)
		return
	}
	text, _ := jwk.Text(k) // no code but OK: what Unpem answers is right
	r.tell("key", text)
}

func (r *run) sum(values []api.Node) {
	hash, ok := hashOf(values[0].Int)
	if !ok {
		r.tell(noLine)
		return
	}
	r.tell("sum", b64.Encode(sha.Sum(hash, []byte(values[1].Text))))
}

// hashOf: the one whose sums have so many bits, if there is one.
func hashOf(bits int64) (api.Hash, bool) {
	switch bits {
	case 256:
		return api.SHA256, true
	case 384:
		return api.SHA384, true
	case 512:
		return api.SHA512, true
	}
	return 0, false
}

func (r *run) rule(values []api.Node) {
	v, code, _ := json.Parse(values[1].Text)
	if code == api.OK {
		code = rules.Allow(values[0].Text, v)
	}
	r.tellCode(code)
}

func (r *run) serial(values []api.Node) {
	want := int(values[3].Int)
	if int64(want) != values[3].Int {
		r.tell(noLine)
		return
	}
	c, kids, code := serial.Verify(values[0].Text, values[1].Text, r.policy, values[2].Int, want)
	r.tellClaims(c, kids, code)
}

func (r *run) open(values []api.Node) {
	front, code := gate.New(r.policy, values[0].Text)
	if code == api.OK {
		r.front = front
	}
	r.tellCode(code)
}

func (r *run) rotate(values []api.Node) {
	r.tellCode(r.front.Rotate(values[0].Text, values[1].Int, values[2].Int))
}

func (r *run) take(values []api.Node) {
	c, code := r.front.Take(values[0].Text, values[1].Int)
	r.tellClaims(c, nil, code)
}

func (r *run) len([]api.Node) { r.tell("len", strconv.Itoa(r.front.Len())) }
