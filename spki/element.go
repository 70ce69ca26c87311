package spki

import (
	"bytes"
	"slices"
	"strconv"

	"signet/api"
	"signet/curve"
	"signet/der"
)

const (
	bitString = 0x03
	null      = 0x05
	sequence  = 0x30

	uncompressed = 0x04 // ahead of a point's coordinates, if both are there
	edSize       = 32
)

// kind: a type of key with its curve, and the OBJECT IDENTIFIERs of its algorithm.
type kind struct {
	kty       api.Kty
	crv       api.Crv
	oid       string
	parameter string // the curve's, where the algorithm names it
}

// kinds: those that have an element. An Oct key has none.
var kinds = [...]kind{
	{api.RSA, api.NoCrv, "1.2.840.113549.1.1.1", ""},
	{api.EC, api.P256, "1.2.840.10045.2.1", "1.2.840.10045.3.1.7"},
	{api.EC, api.P384, "1.2.840.10045.2.1", "1.3.132.0.34"},
	{api.OKP, api.Ed25519, "1.3.101.112", ""},
}

// written: the element of a key.
func written(k api.Key) ([]api.Tlv, error) {
	if err := right(k); err != nil {
		return nil, err
	}
	for _, own := range kinds {
		if own.kty == k.Kty && own.crv == k.Crv {
			return own.element(keyBytes(k)), nil
		}
	}
	return nil, notKey("a type that has no element")
}

// read: the key that an element's bytes say; its parts need not be right.
func read(b []byte) (api.Key, error) {
	v, err := elements(b)
	if err != nil {
		return api.Key{}, err
	}
	for _, own := range kinds {
		if key, ok := own.within(v); ok {
			return own.key(key)
		}
	}
	return api.Key{}, notDer("no known algorithm with a key behind it")
}

// elements: those of DER bytes. What is nested too deep is to this layer no DER, as all else.
func elements(b []byte) ([]api.Tlv, error) {
	v, code, at := der.Parse(b)
	switch code {
	case api.OK:
		return v, nil
	case api.ErrLarge:
		return nil, &fault{"more bytes than DER may have", api.ErrLarge}
	}
	return nil, notDer("no DER from the byte " + strconv.Itoa(at) + " on")
}

// element: that of a key of this kind, of the key's bytes.
func (k kind) element(key []byte) []api.Tlv {
	bits := append([]byte{0}, key...) // no unused bits
	v := append([]api.Tlv{{Tag: sequence, Kids: 2}}, k.algorithm()...)
	return append(v, api.Tlv{Tag: bitString, Data: bits})
}

func (k kind) algorithm() []api.Tlv {
	switch k.kty {
	case api.RSA:
		return []api.Tlv{{Tag: sequence, Kids: 2}, identifier(k.oid), {Tag: null}}
	case api.EC:
		return []api.Tlv{{Tag: sequence, Kids: 2}, identifier(k.oid), identifier(k.parameter)}
	}
	return []api.Tlv{{Tag: sequence, Kids: 1}, identifier(k.oid)}
}

// identifier: all those of kinds are ones, so none is refused.
func identifier(oid string) api.Tlv {
	t, _ := der.OfOid(oid)
	return t
}

// within: the key's bytes, if v is an element of this kind. It must be just what would be written of them.
func (k kind) within(v []api.Tlv) ([]byte, bool) {
	key := bytes.TrimPrefix(v[len(v)-1].Data, []byte{0})
	return key, slices.EqualFunc(v, k.element(key), same)
}

func same(a, b api.Tlv) bool {
	return a.Tag == b.Tag && a.Kids == b.Kids && bytes.Equal(a.Data, b.Data)
}

// keyBytes: what stands in the BIT STRING of a right key.
func keyBytes(k api.Key) []byte {
	switch k.Kty {
	case api.RSA:
		b, _ := der.Print([]api.Tlv{{Tag: sequence, Kids: 2}, der.OfUint(k.N), der.OfUint(k.E)})
		return b
	case api.EC:
		return slices.Concat([]byte{uncompressed}, k.X, k.Y)
	}
	return k.X
}

// key: the one of this kind that the bytes in the BIT STRING say.
func (k kind) key(b []byte) (out api.Key, err error) {
	out.Kty, out.Crv = k.kty, k.crv
	switch k.kty {
	case api.RSA:
		out.N, out.E, err = numbers(b)
	case api.EC:
		out.X, out.Y, err = coordinates(b, curve.Size(k.crv))
	default:
		out.X, err = edPoint(b)
	}
	return out, err
}

// numbers: N and E of an RSA key's bytes, as least bytes.
func numbers(b []byte) (n, e []byte, err error) {
	v, err := elements(b)
	if err != nil {
		return nil, nil, &fault{"in the BIT STRING", err}
	}
	if len(v) != 3 || v[0].Tag != sequence {
		return nil, nil, notDer("no SEQUENCE of two")
	}
	n, isN := der.Uint(v[1])
	e, isE := der.Uint(v[2])
	if !isN || !isE {
		return nil, nil, notDer("no INTEGERs, or one below 0")
	}
	return n, e, nil
}

// coordinates: X and Y of an EC key's bytes, each in memory of its own.
func coordinates(b []byte, size int) (x, y []byte, err error) {
	if len(b) != 1+2*size || b[0] != uncompressed {
		return nil, nil, notDer("no point with both coordinates")
	}
	return slices.Clone(b[1 : 1+size]), slices.Clone(b[1+size:]), nil
}

func edPoint(b []byte) ([]byte, error) {
	if len(b) != edSize {
		return nil, notDer("no 32 bytes of a point")
	}
	return slices.Clone(b), nil
}
