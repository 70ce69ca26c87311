package replay

import (
	"maps"
	"slices"
)

// The first two bytes of every image.
const (
	mark    = 82
	version = 1
)

// How many bytes the numbers of an image have; the sum's size too.
const (
	flagSize   = 1
	clockSize  = 8
	countSize  = 4
	lengthSize = 2
	endSize    = 8
	sumSize    = 8
)

// FNV-1a of 64 bits.
const (
	sumBegin  = 14695981039346656037
	sumFactor = 1099511628211
)

func sumOf(l []byte) uint64 {
	sum := uint64(sumBegin)
	for _, c := range l {
		sum = (sum ^ uint64(c)) * sumFactor
	}
	return sum
}

// appendNumber lays the lowest bytes of n, so many, behind the list, the most significant one first.
func appendNumber(l []byte, n uint64, size int) []byte {
	for i := range size {
		l = append(l, byte(n>>(8*(size-1-i))))
	}
	return l
}

func (b *Book) appendHead(l []byte) []byte {
	flag := uint64(0)
	if b.hasClock {
		flag = 1
	}
	l = append(l, mark, version)
	l = appendNumber(l, flag, flagSize)
	return appendNumber(l, uint64(b.clock), clockSize)
}

// appendNames: by rising names, since a map is gone through in any order, and a book has one image.
func (b *Book) appendNames(l []byte) []byte {
	l = appendNumber(l, uint64(len(b.ends)), countSize)
	for _, jti := range slices.Sorted(maps.Keys(b.ends)) {
		l = appendNumber(l, uint64(len(jti)), lengthSize)
		l = append(l, jti...)
		l = appendNumber(l, uint64(b.ends[jti]), endSize)
	}
	return l
}
