package rsa1_test

import (
	"slices"
	"testing"

	"signet/api"
)

// mustOpen: a key and a sig that it opens to these bytes: are they taken for the message just if they are its encoding?
func mustOpen(t *testing.T, what string, want api.Errno, h api.Hash, message, opened []byte) {
	t.Helper()
	n, sig := keyFor(t, opened, 8*len(opened))
	mustVerify(t, "9.3: "+what, want, h, n, three, message, sig)
}

// An encoding that differs in any one place: each bit of each byte.
func TestOneBitElse(t *testing.T) {
	message := []byte("pay 10")
	for _, h := range hashes {
		encoding, _ := wantEncode(h, message, 256)
		mustOpen(t, "the encoding", api.OK, h, message, encoding)
		for i := range encoding {
			for bit := range 8 {
				mustOpen(t, "one bit else", api.ErrSignature, h, message, changed(encoding, i, 1<<bit))
			}
		}
	}
}

// Every other byte, where the parts of the encoding meet, and of keys of other sizes.
func TestOneByteElse(t *testing.T) {
	message := []byte("pay 10")
	for _, h := range hashes {
		for _, size := range []int{256, 257, 384, 512} {
			encoding, _ := wantEncode(h, message, size)
			info := size - len(digestInfo(h, message))
			for _, i := range []int{0, 1, 2, 3, 9, 10, info - 2, info - 1, info, info + 1, info + 18, info + 19, size - 1} {
				for mask := 1; mask < 256; mask++ {
					mustOpen(t, "one byte else", api.ErrSignature, h, message, changed(encoding, i, byte(mask)))
				}
			}
		}
	}
}

// Encodings that a loose reader takes: a shorter filling with more behind it, other fillings, other spellings of the DigestInfo.
func TestForged(t *testing.T) {
	message := []byte("pay 10")
	for _, h := range hashes {
		info := digestInfo(h, message)
		sum := info[19:]
		head, tail := []byte{0, 1}, append([]byte{0}, info...)
		for _, size := range []int{256, 300, 512} {
			mustOpen(t, "the encoding", api.OK, h, message, filled(head, tail, size))
			for _, fill := range []int{0, 1, 7, 8, 9, 100, size - len(info) - 4} {
				short := slices.Concat(head, ones(fill), tail)
				for _, more := range [][]byte{make([]byte, size), ones(size), slices.Repeat([]byte{0, 0x5a}, size)} {
					mustOpen(t, "more bytes behind a shorter filling", api.ErrSignature, h, message, slices.Concat(short, more[:size-len(short)]))
				}
				mustOpen(t, "bytes 0 ahead of the filling", api.ErrSignature, h, message, slices.Concat(head, make([]byte, size-len(short)), ones(fill), tail))
			}
			bare := slices.Concat([]byte{0x30, byte(len(sum) + 15), 0x30, 0x0b}, info[4:15], []byte{4, byte(len(sum))}, sum)
			long := slices.Concat([]byte{0x30, 0x81, info[1] + 1}, info[2:17], []byte{4, 0x81, byte(len(sum))}, sum)
			for what, forged := range map[string][]byte{
				"no NULL beside the hash's name":          filled(head, append([]byte{0}, bare...), size),
				"lengths that are spelled longer":         filled(head, append([]byte{0}, long...), size),
				"the sum alone":                           filled(head, append([]byte{0}, sum...), size),
				"no 00 behind the filling":                filled(head, info, size),
				"two 00 behind the filling":               filled(head, append([]byte{0}, tail...), size),
				"nothing but filling":                     filled(head, nil, size),
				"no byte 00 ahead":                        append(filled(head, tail, size)[1:], 0),
				"block type 0":                            filled([]byte{0, 0}, tail, size),
				"block type 2":                            filled([]byte{0, 2}, tail, size),
				"a filling of 00":                         slices.Concat(head, make([]byte, size-2-len(tail)), tail),
				"nothing":                                 make([]byte, size),
				"the sum with a byte changed for another": filled(head, slices.Concat(tail[:len(tail)-2], tail[len(tail)-1:], tail[len(tail)-2:len(tail)-1]), size),
			} {
				mustOpen(t, what, api.ErrSignature, h, message, forged)
			}
		}
	}
}

// The DigestInfo of another hash, be it with this one's sum as far as it goes.
func TestOtherHash(t *testing.T) {
	message := []byte("pay 10")
	for _, h := range hashes {
		for _, other := range hashes {
			want := api.ErrSignature
			if other == h {
				want = api.OK
			}
			encoding, _ := wantEncode(other, message, 256)
			mustOpen(t, "another hash", want, h, message, encoding)
			info, alien := digestInfo(h, message), digestInfo(other, message)
			mustOpen(t, "another hash's name", want, h, message, filled([]byte{0, 1}, slices.Concat([]byte{0}, alien[:19], info[19:]), 256))
			mustOpen(t, "another hash's sum", want, h, message, filled([]byte{0, 1}, slices.Concat([]byte{0}, info[:19], alien[19:]), 256))
		}
	}
}
