package replay

import "signet/api"

// reader goes through an image thing by thing. Its methods say whether what they read can be; if not, at is the place to tell.
type reader struct {
	image []byte
	at    int // where the thing that was read last begins
	next  int // where the next one does
}

// part: the bytes of the next thing; false, if the image ends in it.
func (r *reader) part(size int) ([]byte, bool) {
	r.at = r.next
	if size > len(r.image)-r.at {
		return nil, false
	}
	r.next += size
	return r.image[r.at:r.next], true
}

func (r *reader) number(size int) (uint64, bool) {
	l, ok := r.part(size)
	n := uint64(0)
	for _, c := range l {
		n = n<<8 | uint64(c)
	}
	return n, ok
}

// head reads all ahead of the names, but their number.
func (r *reader) head(b *Book) bool {
	for _, want := range [2]uint64{mark, version} {
		if n, ok := r.number(1); !ok || n != want {
			return false
		}
	}
	flag, ok := r.number(flagSize)
	if !ok || flag > 1 {
		return false
	}
	clock, ok := r.number(clockSize)
	b.clock, b.hasClock = int64(clock), flag == 1
	return ok && (b.hasClock || clock == 0)
}

func (r *reader) names(b *Book) bool {
	count, ok := r.number(countSize)
	if !ok || count > api.MaxReplay || count > 0 && !b.hasClock {
		return false
	}
	ahead := ""
	for i := range count {
		jti, ok := r.name()
		if !ok || i > 0 && jti <= ahead {
			return false
		}
		end, ok := r.number(endSize)
		if !ok || int64(end) < b.clock {
			return false
		}
		b.ends[jti] = int64(end)
		ahead = jti
	}
	return true
}

// name is a copy of its bytes: the image is not the book's to keep.
func (r *reader) name() (string, bool) {
	size, ok := r.number(lengthSize)
	if !ok || size > api.MaxJti {
		return "", false
	}
	l, ok := r.part(int(size))
	return string(l), ok
}

// end: the sum, and nothing behind it.
func (r *reader) end() bool {
	sum, ok := r.number(sumSize)
	if !ok || sum != sumOf(r.image[:r.at]) {
		return false
	}
	r.at = r.next
	return r.at == len(r.image)
}
