package der_test

import (
	"bytes"
	"crypto/ecdsa"
	"crypto/ed25519"
	"crypto/elliptic"
	"crypto/rsa"
	"crypto/x509"
	"encoding/asn1"
	"math/big"
	"math/rand"
	"slices"
	"testing"

	"signet/api"
	"signet/der"
)

// publicKeys: real ones, as Go's own library writes them.
func publicKeys(t *testing.T) [][]byte {
	t.Helper()
	g := elliptic.P256().Params()
	n := new(big.Int).Sub(new(big.Int).Lsh(big.NewInt(1), 2048), big.NewInt(159))
	var out [][]byte
	for _, key := range []any{&ecdsa.PublicKey{Curve: elliptic.P256(), X: g.Gx, Y: g.Gy}, ed25519.PublicKey(g.Gx.Bytes()), &rsa.PublicKey{N: n, E: 65537}} {
		b, err := x509.MarshalPKIXPublicKey(key)
		if err != nil {
			t.Fatal(err)
		}
		out = append(out, b)
	}
	return out
}

func TestPublicKeys(t *testing.T) {
	keys := publicKeys(t)
	for i, algorithm := range []string{"1.2.840.10045.2.1", "1.3.101.112", "1.2.840.113549.1.1.1"} {
		holdParse(t, keys[i])
		v, code, at := der.Parse(keys[i])
		if code != api.OK || len(v) < 4 || v[0].Tag != 0x30 || v[0].Kids != 2 || v[1].Tag != 0x30 || v[len(v)-1].Tag != 3 {
			t.Fatalf("8.1: Parse(%x) = %+v, %d at %d", keys[i], v, int(code), at)
		}
		if got, ok := der.Oid(v[2]); !ok || got != algorithm {
			t.Errorf("8.6: Oid(%+v) = %q, %v", v[2], got, ok)
		}
		for cut := range keys[i] {
			holdFault(t, keys[i][:cut], api.ErrDer, 0)
		}
	}
	v, _, _ := der.Parse(keys[2])
	inner, code, _ := der.Parse(v[len(v)-1].Data[1:])
	if code != api.OK || len(inner) != 3 {
		t.Fatalf("8.1: %+v, %d", inner, int(code))
	}
	n, ok := der.Uint(inner[1])
	if e, too := der.Uint(inner[2]); !ok || !too || len(n) != 256 || n[255] != 0x100-159 || !bytes.Equal(e, []byte{1, 0, 1}) {
		t.Errorf("8.5: %x, %x", n, e)
	}
}

// Every byte at every place of some texts, put in, put instead, and as the last one.
func TestEveryByteEverywhere(t *testing.T) {
	keys := publicKeys(t)
	for _, b := range [][]byte{keys[0], keys[1], unhex("30 0f 02 02 00 80 31 02 05 00 03 02 07 80 01 01 ff"), unhex("a0 08 06 03 2a 81 01 24 01 00"), element(4, make([]byte, 130)), nested(32)} {
		for at := range len(b) + 1 {
			for x := range 256 {
				head := append(slices.Clone(b[:at]), byte(x))
				holdParse(t, head)
				holdParse(t, slices.Concat(head, b[at:]))
				if at < len(b) {
					holdParse(t, slices.Concat(head, b[at+1:]))
				}
			}
		}
	}
}

// record: things of every kind that the library writes.
type record struct {
	Yes    bool
	Number *big.Int
	Bits   asn1.BitString
	Octets []byte
	Name   asn1.ObjectIdentifier
	List   []int
	Texts  []string `asn1:"set"`
	Inner  struct{ A, B int }
	Own    []byte `asn1:"tag:3"`
	Around int    `asn1:"explicit,tag:5"`
}

func drawnRecord(r *rand.Rand) record {
	x := record{Yes: r.Intn(2) == 0, Number: new(big.Int).Rand(r, new(big.Int).Lsh(big.NewInt(1), uint(1+r.Intn(2000))))}
	if r.Intn(3) == 0 {
		x.Number.Neg(x.Number)
	}
	x.Octets, x.Own = make([]byte, r.Intn(300)), make([]byte, r.Intn(5))
	length := r.Intn(40)
	x.Bits = asn1.BitString{Bytes: make([]byte, (length+7)/8), BitLength: length}
	if length > 0 {
		x.Bits.Bytes[0] = 0x80
	}
	x.Name = asn1.ObjectIdentifier{r.Intn(3), r.Intn(40)}
	if x.Name[0] == 2 {
		x.Name[1] = int(r.Int31()) >> r.Intn(31)
		x.Name[1] = min(x.Name[1], 1<<31-81) // of more the library knows nothing
	}
	for range r.Intn(6) {
		x.Name = append(x.Name, int(r.Int31())>>r.Intn(31))
	}
	for range r.Intn(4) {
		x.List = append(x.List, int(r.Int31()-1<<30)>>r.Intn(31))
		x.Texts = append(x.Texts, "abcdefg"[:r.Intn(8)])
	}
	x.Inner.A, x.Inner.B, x.Around = r.Intn(1<<20), -r.Intn(1<<20), r.Intn(300)-150
	return x
}

// What Go's own library writes is taken, and says the same.
func TestAgainstLibrary(t *testing.T) {
	r := rand.New(rand.NewSource(2))
	for range 3000 {
		x := drawnRecord(r)
		b, err := asn1.Marshal(x)
		if err != nil {
			t.Fatal(err)
		}
		holdParse(t, b)
		v, code, at := der.Parse(b)
		if code != api.OK || v[0].Kids != 10 {
			t.Fatalf("8.1: Parse(%x) = %+v, %d at %d", b, v, int(code), at)
		}
		if yes := v[1].Data[0] == 0xff; yes != x.Yes {
			t.Fatalf("8.1: %+v, of %v", v[1], x.Yes)
		}
		n, ok := der.Uint(v[2])
		if ok != (x.Number.Sign() >= 0) || ok && !bytes.Equal(n, x.Number.Bytes()) {
			t.Fatalf("8.5: Uint(%+v) = %x, %v, of %x", v[2], n, ok, x.Number)
		}
		if ok && !sameTlv(der.OfUint(x.Number.Bytes()), v[2]) {
			t.Fatalf("8.5: OfUint(%x) = %+v", x.Number, der.OfUint(x.Number.Bytes()))
		}
		if int(v[3].Data[0]) != 8*len(x.Bits.Bytes)-x.Bits.BitLength || !bytes.Equal(v[3].Data[1:], x.Bits.Bytes) || !bytes.Equal(v[4].Data, x.Octets) {
			t.Fatalf("8.1: %+v, %+v", v[3], v[4])
		}
		if name, ok := der.Oid(v[5]); !ok || name != x.Name.String() {
			t.Fatalf("8.6: Oid(%+v) = %q, %v, of %v", v[5], name, ok, x.Name)
		}
		if name, ok := der.OfOid(x.Name.String()); !ok || !sameTlv(name, v[5]) {
			t.Fatalf("8.6: OfOid(%v) = %+v, %v", x.Name, name, ok)
		}
		holdRead(t, b, x)
	}
}

// holdRead: what Print writes the library reads.
func holdRead(t *testing.T, b []byte, x record) {
	t.Helper()
	v, _, _ := der.Parse(b)
	again, code := der.Print(v)
	var y record
	rest, err := asn1.Unmarshal(again, &y)
	if code != api.OK || err != nil || len(rest) > 0 || !y.Name.Equal(x.Name) || y.Number.Cmp(x.Number) != 0 || !slices.Equal(y.List, x.List) || len(y.Texts) != len(x.Texts) {
		t.Fatalf("8.4: the library reads %x as %+v, %v", again, y, err)
	}
}
