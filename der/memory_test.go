package der_test

import (
	"bytes"
	"math/rand"
	"slices"
	"sync"
	"testing"
	"unsafe"

	"signet/api"
	"signet/der"
)

// spoil changes every byte, the spare room too.
func spoil(b []byte) {
	b = b[:cap(b)]
	for i := range b {
		b[i] ^= 0xff
	}
}

func spoilList(v []api.Tlv) {
	v = v[:cap(v)]
	for i := range v {
		spoil(v[i].Data)
		v[i] = api.Tlv{Tag: 99, Kids: 99}
	}
}

// roomy: the bytes with marked ones ahead of them and as their spare room.
func roomy(b []byte) (whole, piece []byte) {
	marks := []byte("room that is somebody else's")
	whole = slices.Concat(marks, b, marks)
	return whole, whole[len(marks) : len(marks)+len(b)]
}

// deepClone: a list that shares nothing.
func deepClone(v []api.Tlv) []api.Tlv {
	out := slices.Clone(v)
	for i := range out {
		out[i].Data = slices.Clone(out[i].Data)
	}
	return out
}

// texts: some that are taken and some that are not.
func texts() [][]byte {
	out := [][]byte{nil, {}, unhex("05 00"), unhex("02 01 05"), unhex("04 00"), unhex("30 00"), unhex("30 05 02 01 05 05 00"), unhex("30 06 02 01 05 05 00"), unhex("30 06 04 01 01 04 01 02"), unhex("05 00 00"), nested(33), element(4, make([]byte, 300)), make([]byte, api.MaxDer+1)}
	r := rand.New(rand.NewSource(3))
	for range 60 {
		if b, code := der.Print(drawn(r, 4)); code == api.OK {
			out = append(out, b)
		}
	}
	return out
}

func TestParseMemory(t *testing.T) {
	for _, b := range texts() {
		whole, piece := roomy(b)
		was := slices.Clone(whole)
		want, wantCode, wantAt := wantParse(b)
		want = deepClone(want)
		one, code, at := der.Parse(piece)
		two, again, place := der.Parse(piece)
		if code != wantCode || again != wantCode || at != wantAt || place != wantAt || !same(one, want) || !same(two, want) {
			t.Fatalf("P3: Parse(%.60x) hangs on spare room, or on what was asked ahead", b)
		}
		for i := range one {
			spoil(one[i].Data)
			for j := range one {
				if j > i && !bytes.Equal(one[j].Data, want[j].Data) {
					t.Fatalf("P2: Parse(%.60x): Data of %d and of %d share memory", b, i, j)
				}
			}
		}
		spoilList(one)
		if !bytes.Equal(whole, was) || !same(two, want) {
			t.Fatalf("P2: Parse(%.60x) changes what is handed in, or an answer shares memory with it or another answer", b)
		}
		if three, _, _ := der.Parse(piece); !same(three, want) {
			t.Fatalf("P3: Parse(%.60x): a changed answer shows in a later one", b)
		}
		spoil(whole)
		if !same(two, want) {
			t.Fatalf("P2: Parse(%.60x): the answer goes with what was handed in", b)
		}
	}
}

// Spare room of one Data must not reach into the next one either.
func TestSpareRoom(t *testing.T) {
	b := element(0x30, slices.Repeat(unhex("04 02 01 02"), 20))
	v, _, _ := der.Parse(b)
	for i := range v {
		if len(v[i].Data) > 0 {
			v[i].Data = append(v[i].Data, 9, 9, 9)
		}
	}
	for i := 1; i < len(v); i++ {
		if !bytes.Equal(v[i].Data, []byte{1, 2, 9, 9, 9}) {
			t.Fatalf("P2: what is laid behind one Data shows in another: %x", v[i].Data)
		}
	}
}

// lists: well shaped and not, some of whose Data are pieces of one memory, one over the other.
func lists(memory []byte) [][]api.Tlv {
	piece := func(from, to int) api.Tlv { return api.Tlv{Tag: 4, Data: memory[from:to]} }
	return [][]api.Tlv{
		nil, {}, {{Tag: 5}}, {piece(0, 5)}, {{Tag: 0x30, Kids: 2}, piece(0, 5), piece(3, 9)}, {{Tag: 0x30, Kids: 3}, piece(0, 9), piece(0, 9), piece(8, 9)}, {{Tag: 0x30, Kids: 2}, piece(0, 5)}, {piece(0, 5), piece(0, 5)}, {{Tag: 0x30, Data: memory[:1]}}, {{Tag: 0xa0, Kids: 1}, {Tag: 0x30, Kids: 1}, piece(0, 0)}, {{Tag: 4, Data: memory}},
	}
}

func TestListMemory(t *testing.T) {
	memory := []byte("all in one memory, with more behind")
	for i := range lists(memory) {
		memory := bytes.Clone(memory)
		l := lists(memory)[i]
		room := slices.Concat(l, []api.Tlv{{Tag: 77, Data: memory[20:], Kids: 7}, {Tag: 78}})
		v := room[:len(l)]
		was := deepClone(room)
		want, wantCode := wantPrint(v)
		one, code := der.Print(v)
		two, again := der.Print(v)
		if code != wantCode || again != wantCode || !bytes.Equal(one, want) || !bytes.Equal(two, want) || der.Shaped(v) != wantShaped(v) {
			t.Fatalf("P3: Print(%+v) hangs on spare room, or on what was asked ahead", v)
		}
		spoil(one)
		if !same(room, was) || !bytes.Equal(two, want) {
			t.Fatalf("P2: Print(%+v) changes what is handed in, or an answer shares memory with it or another answer", was)
		}
		if three, _ := der.Print(v); !bytes.Equal(three, want) {
			t.Fatalf("P3: Print(%+v): a changed answer shows in a later one", v)
		}
		spoil(memory)
		if !bytes.Equal(two, want) {
			t.Fatalf("P2: Print(%+v): the answer goes with what was handed in", was)
		}
	}
}

// numbersAndNames: contents of the two that are read alone, right and wrong.
func numbersAndNames() [][]byte {
	var out [][]byte
	for _, text := range []string{"", "00", "01", "7f", "80", "0080", "00ff01", "0001", "7f0102", "2a864886f70d", "2a86", "8837"} {
		out = append(out, unhex(text))
	}
	return out
}

func TestValueMemory(t *testing.T) {
	for _, b := range numbersAndNames() {
		whole, piece := roomy(b)
		was := slices.Clone(whole)
		x := api.Tlv{Tag: 2, Data: piece}
		want, wantOk := wantUint(api.Tlv{Tag: 2, Data: b})
		wantTlv := wantOfUint(b)
		one, ok := der.Uint(x)
		two, _ := der.Uint(x)
		tlv, twin := der.OfUint(piece), der.OfUint(piece)
		if ok != wantOk || !bytes.Equal(one, want) || !sameTlv(tlv, wantTlv) {
			t.Fatalf("P3: Uint or OfUint of %x hangs on spare room", b)
		}
		spoil(one)
		spoil(tlv.Data)
		if !bytes.Equal(whole, was) || !bytes.Equal(two, want) || !sameTlv(twin, wantTlv) {
			t.Fatalf("P2: Uint or OfUint of %x changes what is handed in, or an answer shares memory with it or another answer", b)
		}
		if three, _ := der.Uint(x); !bytes.Equal(three, want) || !sameTlv(der.OfUint(piece), wantTlv) {
			t.Fatalf("P3: Uint or OfUint of %x: a changed answer shows in a later one", b)
		}
		name, _ := der.Oid(api.Tlv{Tag: 6, Data: piece})
		if wantName, _ := wantOid(api.Tlv{Tag: 6, Data: b}); name != wantName || !bytes.Equal(whole, was) {
			t.Fatalf("P2: Oid of %x changes what is handed in, or hangs on spare room: %q", b, name)
		}
		kept := string([]byte(name))
		spoil(whole)
		if !bytes.Equal(two, want) || !sameTlv(twin, wantTlv) || name != kept {
			t.Fatalf("P2: Uint, OfUint or Oid of %x: an answer goes with what was handed in", b)
		}
	}
}

func TestTextMemory(t *testing.T) {
	for _, s := range []string{"1.2", "2.999.0", "1.2.840.113549", "1..2", "", "1"} {
		memory := []byte(s)
		alias := unsafe.String(unsafe.SliceData(memory), len(memory))
		want, wantOk := wantOfOid(s)
		one, ok := der.OfOid(alias)
		two, _ := der.OfOid(alias)
		spoil(one.Data)
		if ok != wantOk || !sameTlv(two, want) || string(memory) != s {
			t.Errorf("P2: OfOid(%q) changes the text, or two answers share memory: %+v", s, two)
		}
		spoil(memory)
		if !sameTlv(two, want) {
			t.Errorf("P2: OfOid(%q): the answer goes with the text", s)
		}
	}
}

// P3: calls at the same time know nothing of each other.
func TestAtOnce(t *testing.T) {
	var work sync.WaitGroup
	shared := element(0x30, unhex("02 01 05"), unhex("06 03 2a 81 01"))
	for k := range 16 {
		work.Go(func() {
			r := rand.New(rand.NewSource(int64(k)))
			for range 150 {
				v := drawn(r, 4)
				b, code := der.Print(v)
				if want, wantCode := wantPrint(v); code != wantCode || !bytes.Equal(b, want) {
					t.Errorf("P3: Print(%+v) = %x, %d", v, b, int(code))
				}
				for _, b := range [][]byte{b, shared, b[:len(b)/2]} {
					want, wantCode, wantAt := wantParse(b)
					if got, code, at := der.Parse(b); code != wantCode || at != wantAt || !same(got, want) {
						t.Errorf("P3: Parse(%x) = %+v, %d at %d", b, got, int(code), at)
					}
				}
				for _, x := range v {
					text, ok := der.Oid(x)
					if want, wantOk := wantOid(x); ok != wantOk || text != want {
						t.Errorf("P3: Oid(%+v) = %q, %v", x, text, ok)
					}
				}
			}
		})
	}
	work.Wait()
}
