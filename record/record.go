// Package record: values as the bytes of a page, each behind its length and its sum.
package record

import (
	"slices"

	"dovecote/api"
)

const (
	head     = 3 // bytes ahead of a value: its length, and its sum in two
	firstSum = 7
	sumTimes = 31
	sumPrime = 65521
)

// Of a value of at most MaxValue bytes: its record.
func Of(s string) []byte {
	n := sum([]byte(s))
	return append([]byte{byte(len(s)), byte(n >> 8), byte(n)}, s...)
}

// All: are these bytes all of them records, one behind the other?
func All(b []byte) bool {
	for len(b) > 0 {
		n := size(b)
		if n == 0 || !summed(b[:n]) {
			return false
		}
		b = b[n:]
	}
	return true
}

// At: the value of the record that begins at a place, in bytes that are All records; false: none begins there.
// The sums are not asked again: whoever reads many values of one page has found them right once.
func At(b []byte, at int) (string, bool) {
	for from := 0; from <= at; {
		n := size(b[from:])
		if n == 0 {
			return "", false
		}
		if from == at {
			return string(b[from+head : from+n]), true
		}
		from += n
	}
	return "", false
}

// Find the value at a place on pages, each of which is All records. ErrNone: there is no such page; ErrRange: no record begins there.
func Find(pages []api.Page, at api.Place) (string, api.Errno) {
	i := slices.IndexFunc(pages, func(p api.Page) bool { return p.Number == at.Page })
	if i < 0 {
		return "", api.ErrNone
	}
	s, ok := At(pages[i].Bytes, at.At)
	if !ok {
		return "", api.ErrRange
	}
	return s, api.OK
}

// size of the record with which bytes begin, whatever its sum; 0: they are too few for it, or its value is too long.
func size(b []byte) int {
	if len(b) < head || b[0] > api.MaxValue || len(b) < head+int(b[0]) {
		return 0
	}
	return head + int(b[0])
}

func summed(rec []byte) bool {
	return int(rec[1])<<8|int(rec[2]) == sum(rec[head:])
}

func sum(b []byte) int {
	n := firstSum
	for _, c := range b {
		n = (sumTimes*n + int(c)) % sumPrime
	}
	return n
}
