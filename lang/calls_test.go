package lang

import (
	"signet/api"
	"signet/b64"
	"signet/cbor"
	"signet/chain"
	"signet/claims"
	"signet/cose"
	"signet/curve"
	"signet/decimal"
	"signet/der"
	"signet/dpop"
	"signet/ecdsa"
	"signet/ed"
	"signet/gate"
	"signet/header"
	"signet/hmac"
	"signet/idtoken"
	"signet/inflate"
	"signet/json"
	"signet/jwk"
	"signet/jws"
	"signet/jwt"
	"signet/keyset"
	"signet/log"
	"signet/modn"
	"signet/nat"
	"signet/pss"
	"signet/replay"
	"signet/ring"
	"signet/rsa1"
	"signet/rules"
	"signet/sdjwt"
	"signet/serial"
	"signet/sha"
	"signet/signet"
	"signet/spki"
	"signet/status"
	"signet/x509"
)

// The calls that the chapters list: this file builds only while each of them stands with its signature.
var (
	_ func(b []byte) string                   = b64.Encode
	_ func(s string) ([]byte, api.Errno, int) = b64.Decode
	_ func(b []byte) string                   = b64.EncodeStd
	_ func(s string) ([]byte, api.Errno, int) = b64.DecodeStd

	_ func(text string) bool                = decimal.Valid
	_ func(text string) (int64, bool)       = decimal.Whole
	_ func(a, b string) (int, api.Errno)    = decimal.Compare
	_ func(text string) (uint32, api.Errno) = decimal.Nearest
	_ func(bits uint32) string              = decimal.Exact

	_ func(text string) ([]api.Node, api.Errno, int) = json.Parse
	_ func(v []api.Node) (string, api.Errno)         = json.Print
	_ func(v []api.Node) bool                        = json.Shaped
	_ func(v []api.Node, at int, key string) int     = json.Member
	_ func(v []api.Node, at int) []int               = json.Kids
	_ func(v []api.Node, at int) int                 = json.Behind

	_ func(h api.Hash) int                     = sha.Size
	_ func(h api.Hash) int                     = sha.Block
	_ func(h api.Hash, parts ...[]byte) []byte = sha.Sum
	_ func(h api.Hash) *sha.State              = sha.New
	_ func(s *sha.State, b []byte)             = (*sha.State).Write
	_ func(s *sha.State) []byte                = (*sha.State).Sum
	_ func(s *sha.State) *sha.State            = (*sha.State).Copy

	_ func(h api.Hash, key, data []byte) []byte    = hmac.Sum
	_ func(a, b []byte) bool                       = hmac.Equal
	_ func(h api.Hash, key, data, tag []byte) bool = hmac.Check

	_ func(b []byte) api.Nat                         = nat.FromBytes
	_ func(n api.Nat) []byte                         = nat.Bytes
	_ func(n api.Nat, size int) ([]byte, bool)       = nat.Fixed
	_ func(u uint64) api.Nat                         = nat.FromUint
	_ func(n api.Nat) (uint64, bool)                 = nat.Uint
	_ func(a, b api.Nat) int                         = nat.Cmp
	_ func(a, b api.Nat) api.Nat                     = nat.Add
	_ func(a, b api.Nat) (api.Nat, bool)             = nat.Sub
	_ func(a, b api.Nat) api.Nat                     = nat.Mul
	_ func(a, d api.Nat) (q, r api.Nat, e api.Errno) = nat.DivMod
	_ func(n api.Nat) int                            = nat.Bits
	_ func(n api.Nat, i int) bool                    = nat.Bit
	_ func(n api.Nat, k int) api.Nat                 = nat.Shl
	_ func(n api.Nat, k int) api.Nat                 = nat.Shr

	_ func(a, b, m api.Nat) (api.Nat, api.Errno) = modn.Add
	_ func(a, b, m api.Nat) (api.Nat, api.Errno) = modn.Sub
	_ func(a, b, m api.Nat) (api.Nat, api.Errno) = modn.Mul
	_ func(a, e, m api.Nat) (api.Nat, api.Errno) = modn.Exp
	_ func(a, m api.Nat) (api.Nat, api.Errno)    = modn.Inv

	_ func(b []byte) ([]api.Tlv, api.Errno, int) = der.Parse
	_ func(v []api.Tlv) ([]byte, api.Errno)      = der.Print
	_ func(v []api.Tlv) bool                     = der.Shaped
	_ func(t api.Tlv) ([]byte, bool)             = der.Uint
	_ func(b []byte) api.Tlv                     = der.OfUint
	_ func(t api.Tlv) (string, bool)             = der.Oid
	_ func(s string) (api.Tlv, bool)             = der.OfOid

	_ func(n, e []byte) api.Errno                                    = rsa1.Key
	_ func(h api.Hash, message []byte, size int) ([]byte, api.Errno) = rsa1.Encode
	_ func(h api.Hash, n, e, message, sig []byte) api.Errno          = rsa1.Verify

	_ func(h api.Hash, seed []byte, n int) ([]byte, api.Errno)            = pss.Mask
	_ func(h api.Hash, digest, salt []byte, bits int) ([]byte, api.Errno) = pss.Encode
	_ func(h api.Hash, digest, em []byte, bits int) bool                  = pss.Holds
	_ func(h api.Hash, n, e, message, sig []byte) api.Errno               = pss.Verify

	_ func(c api.Crv) api.Nat                                           = curve.Field
	_ func(c api.Crv) api.Nat                                           = curve.Order
	_ func(c api.Crv) api.Point                                         = curve.Base
	_ func(c api.Crv) int                                               = curve.Size
	_ func(c api.Crv, p api.Point) bool                                 = curve.On
	_ func(c api.Crv, p api.Point) (api.Point, api.Errno)               = curve.Neg
	_ func(c api.Crv, p, q api.Point) (api.Point, api.Errno)            = curve.Add
	_ func(c api.Crv, k api.Nat, p api.Point) (api.Point, api.Errno)    = curve.Mul
	_ func(c api.Crv, a, b api.Nat, q api.Point) (api.Point, api.Errno) = curve.Joint
	_ func(c api.Crv, x, y []byte) (api.Point, api.Errno)               = curve.Decode
	_ func(c api.Crv, p api.Point) (x, y []byte, e api.Errno)           = curve.Encode

	_ func(h api.Hash, c api.Crv, x, y, message, sig []byte) api.Errno                                  = ecdsa.Verify
	_ func(h api.Hash, c api.Crv, message []byte, r, s api.Nat, p api.Point) (x, y []byte, e api.Errno) = ecdsa.Recover

	_ func() api.Point                                    = ed.Base
	_ func() api.Nat                                      = ed.Order
	_ func(b []byte) (api.Point, api.Errno)               = ed.Decode
	_ func(p api.Point) ([]byte, api.Errno)               = ed.Encode
	_ func(p, q api.Point) (api.Point, api.Errno)         = ed.Add
	_ func(k api.Nat, p api.Point) (api.Point, api.Errno) = ed.Mul
	_ func(pub, message, sig []byte) api.Errno            = ed.Verify

	_ func(k api.Key) api.Errno              = spki.Check
	_ func(b []byte) (api.Key, api.Errno)    = spki.Parse
	_ func(k api.Key) ([]byte, api.Errno)    = spki.Print
	_ func(text string) (api.Key, api.Errno) = spki.Unpem
	_ func(k api.Key) (string, api.Errno)    = spki.Pem

	_ func(v []api.Node, at int) (api.Key, api.Errno) = jwk.Read
	_ func(k api.Key) (string, api.Errno)             = jwk.Text
	_ func(k api.Key) (string, api.Errno)             = jwk.Thumbprint

	_ func(name string) api.Alg                              = keyset.Of
	_ func(a api.Alg) string                                 = keyset.Name
	_ func(doc string) ([]api.Entry, api.Errno)              = keyset.Parse
	_ func(l []api.Entry, kid string) (api.Entry, api.Errno) = keyset.Find
	_ func(x api.Entry, a api.Alg) api.Errno                 = keyset.Bind

	_ func(text string) (api.Header, api.Errno)  = header.Parse
	_ func(p api.Policy, h api.Header) api.Errno = header.Allow
	_ func(h api.Header) (string, api.Errno)     = header.Print

	_ func(token string) (head, pay, sig string, e api.Errno)            = jws.Split
	_ func(token string) (head, pay, sig []byte, e api.Errno)            = jws.Decode
	_ func(head, pay, sig []byte) (string, api.Errno)                    = jws.Compact
	_ func(a api.Alg, k api.Key) bool                                    = jws.Fits
	_ func(a api.Alg, k api.Key, signing string, sig []byte) api.Errno   = jws.Check
	_ func(a api.Alg, secret []byte, signing string) ([]byte, api.Errno) = jws.Tag

	_ func(payload string) (api.Claims, api.Errno)             = claims.Parse
	_ func(c api.Claims, p api.Policy) api.Errno               = claims.Check
	_ func(c api.Claims, leeway, now int64) api.Errno          = claims.Clock
	_ func(c api.Claims, leeway int64) (api.Window, api.Errno) = claims.Open

	_ func(token, keys string, p api.Policy, now int64) (api.Claims, api.Errno)  = jwt.Verify
	_ func(token, keys string, p api.Policy) (api.Claims, api.Window, api.Errno) = jwt.Judge

	_ func(text string) ([]string, api.Errno)                                                      = serial.Tokens
	_ func(tokens []string) (string, api.Errno)                                                    = serial.General
	_ func(text, keys string, p api.Policy, now int64, want int) (api.Claims, []string, api.Errno) = serial.Verify

	_ func(a api.Alg, text string) (string, api.Errno)               = idtoken.Half
	_ func(c api.Claims, a api.Alg, w api.Want, now int64) api.Errno = idtoken.Check

	_ func() *replay.Book                                          = replay.New
	_ func(image []byte) (*replay.Book, api.Errno, int)            = replay.Open
	_ func(b *replay.Book, jti string, until, now int64) api.Errno = (*replay.Book).Take
	_ func(b *replay.Book, jti string) bool                        = (*replay.Book).Has
	_ func(b *replay.Book) int                                     = (*replay.Book).Len
	_ func(b *replay.Book) (int64, bool)                           = (*replay.Book).Last
	_ func(b *replay.Book) []byte                                  = (*replay.Book).Image

	_ func() *ring.Ring                                                                        = ring.New
	_ func(r *ring.Ring, keys string, now, grace int64) api.Errno                              = (*ring.Ring).Rotate
	_ func(r *ring.Ring, token string, p api.Policy, now int64) (api.Claims, int64, api.Errno) = (*ring.Ring).Verify
	_ func(r *ring.Ring, now int64) []int64                                                    = (*ring.Ring).Versions
	_ func(r *ring.Ring, version int64) api.Errno                                              = (*ring.Ring).Drop

	_ func(text string) ([]api.RuleNode, api.Errno, int)     = rules.Parse
	_ func(r []api.RuleNode) (string, api.Errno)             = rules.Print
	_ func(r []api.RuleNode) bool                            = rules.Shaped
	_ func(r []api.RuleNode, v []api.Node) (bool, api.Errno) = rules.Holds
	_ func(text string, v []api.Node) api.Errno              = rules.Allow

	_ func(p api.Policy, rule string) (*gate.Gate, api.Errno)             = gate.New
	_ func(g *gate.Gate, keys string, now, grace int64) api.Errno         = (*gate.Gate).Rotate
	_ func(g *gate.Gate, token string, now int64) (api.Claims, api.Errno) = (*gate.Gate).Take
	_ func(g *gate.Gate, tokens []string, now int64) []api.Verdict        = (*gate.Gate).Batch
	_ func(g *gate.Gate) int                                              = (*gate.Gate).Len

	_ func(text string) (api.Policy, api.Errno) = signet.Policy
	_ func(script string) string                = signet.Run

	_ func(text string) (string, []string, api.Errno)                          = sdjwt.Split
	_ func(disclosure string) string                                           = sdjwt.Digest
	_ func(v []api.Node, disclosures []string) ([]api.Node, api.Errno)         = sdjwt.Reveal
	_ func(text, keys string, p api.Policy, now int64) ([]api.Node, api.Errno) = sdjwt.Verify

	_ func(proof, method, uri, access, thumb string, now, window int64) (string, api.Errno) = dpop.Check
	_ func(c api.Claims) (string, api.Errno)                                                = dpop.Bound

	_ func(b []byte) ([]api.Item, api.Errno, int)    = cbor.Parse
	_ func(v []api.Item) ([]byte, api.Errno)         = cbor.Print
	_ func(v []api.Item) bool                        = cbor.Shaped
	_ func(v []api.Item, at int) int                 = cbor.Behind
	_ func(v []api.Item, at int, key []api.Item) int = cbor.Member

	_ func(msg, aad []byte) (api.Alg, []byte, []byte, []byte, []byte, api.Errno) = cose.Parse
	_ func(msg, aad []byte, k api.Key, algs []string) ([]byte, api.Errno)        = cose.Verify
	_ func(payload []byte) (api.Claims, api.Errno)                               = cose.Claims

	_ func(b []byte) (api.Cert, api.Errno)   = x509.Parse
	_ func(c api.Cert, by api.Key) api.Errno = x509.Issued
	_ func(t api.Tlv) (int64, bool)          = x509.Seconds

	_ func(chain, roots [][]byte, now int64) (api.Key, api.Errno)                                       = chain.Verify
	_ func(c api.Cert, host string) bool                                                                = chain.Names
	_ func(token string, x5c []string, roots [][]byte, p api.Policy, now int64) (api.Claims, api.Errno) = chain.Token

	_ func(b []byte, most int) ([]byte, int, api.Errno) = inflate.Inflate
	_ func(b []byte, most int) ([]byte, api.Errno)      = inflate.Zlib
	_ func(b []byte) uint32                             = inflate.Adler

	_ func(v []api.Node) (*status.List, api.Errno) = status.Open
	_ func(l *status.List) int                     = (*status.List).Len
	_ func(l *status.List, i int) (int, api.Errno) = (*status.List).At
	_ func(c api.Claims) (string, int, api.Errno)  = status.Place

	_ func(entry []byte) []byte                                                = log.Leaf
	_ func(entries [][]byte) []byte                                            = log.Root
	_ func(entries [][]byte, at int) ([][]byte, api.Errno)                     = log.Proof
	_ func(root []byte, size, at int, leaf []byte, proof [][]byte) bool        = log.Check
	_ func(entries [][]byte, size int) ([][]byte, api.Errno)                   = log.Growth
	_ func(old []byte, size int, root []byte, bigger int, proof [][]byte) bool = log.Grown
	_ func() *log.Log                                                          = log.New
	_ func(l *log.Log, entry []byte) (int, api.Errno)                          = (*log.Log).Append
	_ func(l *log.Log) int                                                     = (*log.Log).Size
	_ func(l *log.Log, n int) ([]byte, api.Errno)                              = (*log.Log).Root
	_ func(l *log.Log, n, at int) ([][]byte, api.Errno)                        = (*log.Log).Proof
	_ func(l *log.Log, m, n int) ([][]byte, api.Errno)                         = (*log.Log).Growth
)
