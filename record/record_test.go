package record_test

import (
	"bytes"
	"math"
	"strings"
	"testing"

	"dovecote/api"
	"dovecote/record"
)

// P2.2: sums that were worked out by hand; that of "abc" is the first one from which 65521 is taken away.
func TestOf(t *testing.T) {
	for _, c := range []struct {
		value string
		want  []byte
	}{
		{"", []byte{0, 0, 7}},
		{"\x00", []byte{1, 0, 217, 0}},
		{"a", []byte{1, 1, 58, 'a'}},
		{"\xff", []byte{1, 1, 216, 255}},
		{"ab", []byte{2, 38, 104, 'a', 'b'}},
		{"ba", []byte{2, 38, 134, 'b', 'a'}},
		{"abc", []byte{3, 167, 55, 'a', 'b', 'c'}},
		{"a\n", []byte{2, 38, 16, 'a', '\n'}},
	} {
		if got := record.Of(c.value); !bytes.Equal(got, c.want) {
			t.Errorf("Of(%q): %v, want %v", c.value, got, c.want)
		}
	}
}

func TestOfLongValues(t *testing.T) {
	for _, n := range []int{127, 128, api.MaxValue} {
		s := strings.Repeat("v", n)
		if b := record.Of(s); len(b) != n+3 || int(b[0]) != n || string(b[3:]) != s {
			t.Errorf("Of(%d bytes): %v", n, b)
		}
	}
}

// joined: records of values, one behind the other.
func joined(values ...string) []byte {
	var b []byte
	for _, s := range values {
		b = append(b, record.Of(s)...)
	}
	return b
}

func TestAll(t *testing.T) {
	long := strings.Repeat("v", api.MaxValue)
	for _, c := range []struct {
		bytes []byte
		want  bool
	}{
		{nil, true},
		{joined(""), true},
		{joined("abc"), true},
		{joined("abc", "", "a"), true},
		{joined(long), true},
		{joined(long + "v"), false},
		{joined(strings.Repeat("v", 255)), false},
		{[]byte{0}, false},
		{[]byte{0, 0}, false},
		{[]byte{0, 0, 6}, false},
		{[]byte{0, 1, 7}, false},
		{[]byte{1, 1, 58}, false},
		{[]byte{1, 1, 58, 'b'}, false},
		{[]byte{1, 58, 1, 'a'}, false},
		{append(joined("abc"), 0), false},
		{append(joined("abc"), 1, 1, 58), false},
		{append([]byte{0}, joined("abc")...), false},
	} {
		if got := record.All(c.bytes); got != c.want {
			t.Errorf("All(%v): %v, want %v", c.bytes, got, c.want)
		}
	}
}

// No byte of a record can be another one: its sum, or its end, is not found again.
func TestAllFindsEachChangedByte(t *testing.T) {
	b := joined("dovecote", "a")
	for i := range b {
		for by := 1; by < 256; by++ {
			c := bytes.Clone(b)
			c[i] += byte(by)
			if record.All(c) {
				t.Errorf("All(%v): byte %d is not as it was", c, i)
			}
		}
	}
}

func TestAt(t *testing.T) {
	b := joined("abc", "", "a")
	for _, c := range []struct {
		at   int
		want string
		ok   bool
	}{
		{0, "abc", true}, {6, "", true}, {9, "a", true},
		{1, "", false}, {3, "", false}, {7, "", false}, {12, "", false}, {13, "", false}, {14, "", false},
		{-1, "", false}, {math.MinInt, "", false}, {math.MaxInt, "", false},
	} {
		if got, ok := record.At(b, c.at); got != c.want || ok != c.ok {
			t.Errorf("At(%v, %d): %q, %v, want %q, %v", b, c.at, got, ok, c.want, c.ok)
		}
	}
}

func TestAtEndsAtBytesThatAreNoRecords(t *testing.T) {
	for _, b := range [][]byte{nil, {0}, {5, 0, 0}, {255, 0, 0, 1}, append(joined("a"), 9, 9, 9)} {
		for _, at := range []int{-1, len(b), len(b) - 3, math.MaxInt} {
			if s, ok := record.At(b, at); ok {
				t.Errorf("At(%v, %d): %q", b, at, s)
			}
		}
	}
}

// P2.5: the page is told by its number, the record by where it begins there.
func TestFind(t *testing.T) {
	pages := []api.Page{{Number: 7, Bytes: joined("abc", "")}, {Number: 8, Bytes: joined("a")}}
	for _, c := range []struct {
		at   api.Place
		want string
		e    api.Errno
	}{
		{api.Place{Page: 7}, "abc", api.OK},
		{api.Place{Page: 7, At: 6}, "", api.OK},
		{api.Place{Page: 8}, "a", api.OK},
		{api.Place{Page: 8, At: 6}, "", api.ErrRange},
		{api.Place{Page: 7, At: -1}, "", api.ErrRange},
		{api.Place{Page: 7, At: math.MaxInt}, "", api.ErrRange},
		{api.Place{}, "", api.ErrNone},
		{api.Place{Page: 6, At: -1}, "", api.ErrNone},
		{api.Place{Page: 9}, "", api.ErrNone},
	} {
		if got, e := record.Find(pages, c.at); got != c.want || e != c.e {
			t.Errorf("Find(%v): %q, %v, want %q, %v", c.at, got, e, c.want, c.e)
		}
	}
	if got, e := record.Find(nil, api.Place{}); got != "" || e != api.ErrNone {
		t.Errorf("Find without pages: %q, %v", got, e)
	}
}
