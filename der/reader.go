package der

import "signet/api"

// reader: bytes, and the elements that have been read from them, in pre order.
type reader struct {
	bytes []byte
	list  []api.Tlv
}

// element reads the one at a place, which must end at end or ahead of it, with so many constructed ones open: the place behind it, or that of the fault.
func (r *reader) element(at, end, open int) (int, api.Errno) {
	head, whole, ok := measure(r.bytes[at:end])
	if !ok {
		return at, api.ErrDer
	}
	t := api.Tlv{Tag: int(r.bytes[at])}
	start, stop := at+head, at+whole
	if !isConstructed(t.Tag) {
		t.Data = append(t.Data, r.bytes[start:stop]...)
	}
	if !sound(t) {
		return at, api.ErrDer
	}
	if isConstructed(t.Tag) && open >= api.MaxDepth {
		return at, api.ErrDeep
	}
	r.list = append(r.list, t)
	if !isConstructed(t.Tag) {
		return stop, api.OK
	}
	return r.kids(start, stop, open+1)
}

// kids reads what stands in the last element of the list, from at to end.
func (r *reader) kids(at, end, open int) (int, api.Errno) {
	around := len(r.list) - 1
	for at < end {
		next, code := r.element(at, end, open)
		if code != api.OK {
			return next, code
		}
		at = next
		r.list[around].Kids++
	}
	return at, api.OK
}

// measure: how many bytes the tag and the length of the element at the front of b have, and how many the whole of it.
func measure(b []byte) (head, whole int, ok bool) {
	if len(b) < 2 {
		return 0, 0, false
	}
	length, digits := uint64(b[1]), 0
	if length >= 0x80 {
		digits = int(length - 0x80)
		if length, ok = longLength(b[2:], digits); !ok {
			return 0, 0, false
		}
	}
	head = 2 + digits
	if length > uint64(len(b)-head) {
		return 0, 0, false
	}
	return head, head + int(length), true
}

// longLength: a length of so many digits in the base 256, at the front of b.
func longLength(b []byte, digits int) (uint64, bool) {
	if digits == 0 || digits > 4 || digits > len(b) || b[0] == 0 {
		return 0, false
	}
	length := uint64(0)
	for _, d := range b[:digits] {
		length = length<<8 | uint64(d)
	}
	return length, length >= 0x80
}
