package snap_test

import (
	"encoding/binary"
	"fmt"
	"hash/adler32"
	"reflect"
	"strings"
	"testing"

	"dovecote/api"
	"dovecote/record"
	"dovecote/snap"
	"dovecote/store"
)

// value of so many bytes.
func value(n int) string { return strings.Repeat("v", n) }

// page: the bytes of one with the records of values.
func page(values ...string) string {
	out := ""
	for _, s := range values {
		out += string(record.Of(s))
	}
	return out
}

// raw bytes stand in what is saved as they are.
type raw string

// body: parts one behind the other, numbers and texts as P4.1 says, worked out apart from the program.
func body(parts ...any) []byte {
	b := []byte("dc1")
	for _, part := range parts {
		switch x := part.(type) {
		case int:
			b = binary.AppendUvarint(b, uint64(x))
		case string:
			b = append(binary.AppendUvarint(b, uint64(len(x))), x...)
		case raw:
			b = append(b, x...)
		}
	}
	return b
}

// sealed: bytes and their seal; P4.2 is the sum that is known as Adler-32.
func sealed(b []byte) []byte {
	return binary.BigEndian.AppendUint32(append([]byte(nil), b...), adler32.Checksum(b))
}

// saved parts.
func saved(parts ...any) []byte { return sealed(body(parts...)) }

// partsOf a store, whether it may be or not, but without numbers below 0.
func partsOf(s api.Store) []any {
	l := []any{s.Clock, s.Cas, s.Uses, s.Most, s.Held[0], s.Held[1], s.Held[2], s.Held[3], s.Flash.Most, s.Flash.Next, len(s.Flash.Pages)}
	for _, p := range s.Flash.Pages {
		l = append(l, string(p.Bytes))
	}
	l = append(l, len(s.Items))
	for _, it := range s.Items {
		l = append(l, it.Key, it.Flags, it.Until, it.Cas, it.Used)
		if it.Far {
			l = append(l, 1, it.Where.Page, it.Where.At)
		} else {
			l = append(l, 0, it.Value)
		}
	}
	return l
}

// usual: a store with two items in memory and one that is far.
func usual() api.Store {
	return api.Store{
		Clock: 300, Cas: 50, Uses: 70, Most: 6, Held: [4]int{2, 1, 0, 3},
		Flash: api.Flash{Most: 3, Next: 9, Pages: []api.Page{
			{Number: 7, Bytes: []byte(page("short"))},
			{Number: 8, Bytes: []byte(page("x", value(24)))},
		}},
		Items: []api.Item{
			{Key: "a", Flags: 65535, Until: 301, Cas: 50, Used: 69, Value: "hi"},
			{Key: "bb", Flags: 5, Cas: 4, Used: 3, Far: true, Where: api.Place{Page: 8, At: 4}},
			{Key: "ccc", Until: 2, Cas: 1, Used: 70},
		},
	}
}

// usualParts: what the usual store is saved as, written out.
func usualParts() []any {
	return []any{
		300, 50, 70, 6, 2, 1, 0, 3,
		3, 9, 2, page("short"), page("x", value(24)),
		3,
		"a", 65535, 301, 50, 69, 0, "hi",
		"bb", 5, 0, 4, 3, 1, 8, 4,
		"ccc", 0, 2, 1, 70, 0, "",
	}
}

// changed: the usual store with one thing other than it was.
func changed(change func(s *api.Store)) api.Store {
	s := usual()
	change(&s)
	return s
}

// fresh store, without items.
func fresh(pages, flash int) api.Store {
	s, _ := store.New(api.Setup{Pages: pages, Flash: flash})
	return s
}

// keyed: far items at one place, so many, with keys of 20 bytes.
func keyed(n int) []api.Item {
	var l []api.Item
	for i := range n {
		l = append(l, api.Item{Key: fmt.Sprintf("%020d", i), Cas: 1, Used: 1, Far: true, Where: api.Place{Page: 1}})
	}
	return l
}

// full: a store with as many pages and items as there may be, and bytes that are as great as may be.
func full() api.Store {
	s := api.Store{Clock: api.MaxNumber, Cas: api.MaxNumber, Uses: api.MaxNumber, Most: api.MaxPages, Held: [4]int{10, 10, 10, 10}}
	s.Flash = api.Flash{Most: api.MaxFlash, Next: api.MaxFlash + 1}
	for i := range api.MaxFlash {
		b := page(strings.Repeat("\xff", 200), strings.Repeat("\xff", 50)) // 256 bytes
		s.Flash.Pages = append(s.Flash.Pages, api.Page{Number: i + 1, Bytes: []byte(b)})
	}
	s.Items = keyed(api.MaxItems)
	s.Items[0] = api.Item{Key: "\x21", Flags: api.MaxFlags, Until: api.MaxNumber, Cas: api.MaxNumber, Used: api.MaxNumber, Value: value(api.MaxValue)}
	return s
}

func mayBe() []api.Store {
	return []api.Store{
		fresh(0, 0), fresh(3, 2), fresh(api.MaxPages, api.MaxFlash),
		usual(), full(),
		changed(func(s *api.Store) { s.Clock, s.Cas, s.Uses = api.MaxNumber, api.MaxNumber, api.MaxNumber }),
		changed(func(s *api.Store) { s.Flash.Most = 20 }),
		changed(func(s *api.Store) { s.Items = s.Items[:1]; s.Flash.Pages, s.Flash.Next = nil, api.MaxNumber }),
		changed(func(s *api.Store) { s.Items = s.Items[1:2]; s.Held = [4]int{} }),
		changed(func(s *api.Store) { s.Items[0].Value = "\x00\xff\n \x80" }),
	}
}

// same: are they, whether lists without elements are nil or not? Copies have those alike.
func same(s, t api.Store) bool { return reflect.DeepEqual(store.Copy(s), store.Copy(t)) }

// wantBoth: a store is saved as these bytes, and comes up again from them.
func wantBoth(t *testing.T, s api.Store, b []byte) {
	t.Helper()
	if got, e := snap.Encode(s); e != api.OK || string(got) != string(b) {
		t.Errorf("Encode(%v): %v, %v, want %v", s, got, e, b)
	}
	if got, e := snap.Decode(b); e != api.OK || !same(got, s) {
		t.Errorf("Decode(%v): %v, %v, want %v", b, got, e, s)
	}
}

// wantRefused: bytes are.
func wantRefused(t *testing.T, what string, b []byte, want api.Errno) {
	t.Helper()
	if s, e := snap.Decode(b); e != want || !same(s, api.Store{}) {
		t.Errorf("%s: Decode(%.400q): %v, %v, want %v", what, b, s, e, want)
	}
}
