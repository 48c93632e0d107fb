package store_test

import (
	"fmt"
	"math"
	"reflect"
	"strings"
	"testing"
	"unsafe"

	"dovecote/api"
	"dovecote/store"
)

// value of so many bytes.
func value(n int) string { return strings.Repeat("v", n) }

// rec: the record of a value, worked out apart from the program.
func rec(s string) []byte {
	sum := uint64(7)
	for i := 0; i < len(s); i++ {
		sum = (sum*31 + uint64(s[i])) % 65521
	}
	return append([]byte{byte(len(s)), byte(sum / 256), byte(sum % 256)}, []byte(s)...)
}

// page with such a number and the records of values.
func page(number int, values ...string) api.Page {
	p := api.Page{Number: number}
	for _, s := range values {
		p.Bytes = append(p.Bytes, rec(s)...)
	}
	return p
}

// flashOf so many pages at most, with such pages.
func flashOf(most, next int, pages ...api.Page) api.Flash {
	return api.Flash{Most: most, Next: next, Pages: pages}
}

// near: an item in memory; its Cas is when it was used.
func near(key, value string, used int) api.Item {
	return api.Item{Key: key, Value: value, Cas: used, Used: used}
}

// far: an item on flash; its Cas is when it was used.
func far(key string, page, at, used int) api.Item {
	return api.Item{Key: key, Far: true, Where: api.Place{Page: page, At: at}, Cas: used, Used: used}
}

// with: a store with such pages of memory and items, the numbers of which go up to n.
func with(most int, held [4]int, n int, f api.Flash, items ...api.Item) api.Store {
	return api.Store{Cas: n, Uses: n, Most: most, Held: held, Items: items, Flash: f}
}

// bare: the same store, each list without elements nil.
func bare(s api.Store) api.Store {
	s.Items = append([]api.Item(nil), s.Items...)
	pages := append([]api.Page(nil), s.Flash.Pages...)
	for i := range pages {
		pages[i].Bytes = append([]byte(nil), pages[i].Bytes...)
	}
	s.Flash.Pages = pages
	return s
}

func same(s, t api.Store) bool { return reflect.DeepEqual(bare(s), bare(t)) }

func sameReply(x, y api.Reply) bool {
	x.Hits, y.Hits = append([]api.Hit(nil), x.Hits...), append([]api.Hit(nil), y.Hits...)
	return reflect.DeepEqual(x, y)
}

// roomy: the same store, with spare room behind each list, which is filled; and a function that tells whether all of it is as it was.
func roomy(s api.Store) (api.Store, func() bool) {
	items := make([]api.Item, 0, len(s.Items)+3)
	items = append(items, s.Items...)
	for i := range 3 {
		items = append(items, near("spare", "room", i))
	}
	pages := make([]api.Page, 0, len(s.Flash.Pages)+3)
	for _, p := range s.Flash.Pages {
		b := append(make([]byte, 0, len(p.Bytes)+300), p.Bytes...)
		for i := len(b); i < cap(b); i++ {
			b = append(b, 99)
		}
		pages = append(pages, api.Page{Number: p.Number, Bytes: b[:len(p.Bytes)]})
	}
	for range 3 {
		pages = append(pages, page(-1, "spare"))
	}
	s.Items, s.Flash.Pages = items[:len(s.Items)], pages[:len(s.Flash.Pages)]
	was := picture(s)
	return s, func() bool { return was == picture(s) }
}

// picture of a store, spare room too.
func picture(s api.Store) string {
	out := fmt.Sprintf("%#v", s.Items[:cap(s.Items)])
	for _, p := range s.Flash.Pages[:cap(s.Flash.Pages)] {
		out += fmt.Sprintf("%d %q", p.Number, p.Bytes[:cap(p.Bytes)])
	}
	return out
}

// scribble over each list of a store, spare room too.
func scribble(s api.Store) {
	items := s.Items[:cap(s.Items)]
	for i := range items {
		items[i] = near("scribble", "over", -7)
	}
	pages := s.Flash.Pages[:cap(s.Flash.Pages)]
	for i, p := range pages {
		b := p.Bytes[:cap(p.Bytes)]
		for j := range b {
			b[j] = 77
		}
		pages[i].Number = 77
	}
}

// P3.1: each class holds what has no room in the one ahead of it, and nothing more.
func TestClass(t *testing.T) {
	for _, c := range []struct{ key, value, want int }{
		{1, 0, 0}, {1, 23, 0}, {20, 4, 0},
		{1, 24, 1}, {20, 5, 1}, {1, 55, 1}, {20, 36, 1},
		{1, 56, 2}, {20, 37, 2}, {1, 119, 2}, {20, 100, 2},
		{1, 120, 3}, {20, 101, 3}, {1, 200, 3}, {20, 200, 3},
		{0, 0, -1}, {0, 10, -1}, {-1, 10, -1}, {21, 0, -1}, {21, 1, -1},
		{1, -1, -1}, {1, 201, -1}, {20, 201, -1}, {20, 228, -1},
		{math.MinInt, 1, -1}, {math.MaxInt, 1, -1}, {1, math.MinInt, -1}, {1, math.MaxInt, -1},
		{math.MaxInt, math.MaxInt, -1}, {math.MinInt, math.MinInt, -1},
	} {
		if got := store.Class(c.key, c.value); got != c.want {
			t.Errorf("Class(%d, %d): %d, want %d", c.key, c.value, got, c.want)
		}
	}
}

// P3.1: a chunk takes what is in it, and the one ahead of it would not.
func TestClassOfAll(t *testing.T) {
	for key := 1; key <= api.MaxKey; key++ {
		for value := 0; value <= api.MaxValue; value++ {
			got := store.Class(key, value)
			if got < 0 || got > 3 || 32<<got < 8+key+value || got > 0 && 16<<got >= 8+key+value {
				t.Errorf("Class(%d, %d): %d", key, value, got)
			}
		}
	}
}

// P3.2
func TestNew(t *testing.T) {
	for _, u := range []api.Setup{{}, {Pages: 3, Flash: 2}, {Pages: api.MaxPages, Flash: api.MaxFlash}, {Pages: 1}, {Flash: 1}} {
		s, e := store.New(u)
		if want := with(u.Pages, [4]int{}, 0, flashOf(u.Flash, 1)); e != api.OK || !same(s, want) {
			t.Errorf("New(%v): %v, %v, want %v", u, s, e, want)
		}
		if e := store.Check(s); e != api.OK {
			t.Errorf("Check(New(%v)): %v", u, e)
		}
	}
}

// P3.2
func TestNewRefuses(t *testing.T) {
	for _, n := range []int{-1, math.MinInt, math.MaxInt} {
		for _, u := range []api.Setup{{Pages: n}, {Flash: n}, {Pages: n, Flash: n}} {
			if s, e := store.New(u); e != api.ErrRange || !same(s, api.Store{}) {
				t.Errorf("New(%v): %v, %v", u, s, e)
			}
		}
	}
	for _, u := range []api.Setup{{Pages: api.MaxPages + 1}, {Flash: api.MaxFlash + 1}, {Pages: api.MaxPages, Flash: api.MaxPages}} {
		if s, e := store.New(u); e != api.ErrRange || !same(s, api.Store{}) {
			t.Errorf("New(%v): %v, %v", u, s, e)
		}
	}
}

// P3.3: also of stores that may not be.
func TestCopy(t *testing.T) {
	odd := api.Item{Key: "a b", Flags: -1, Until: -2, Cas: -3, Used: -4, Value: value(300), Far: true, Where: api.Place{Page: -5, At: -6}}
	for _, s := range append(mayBe(), append(mayNotBe(), api.Store{Clock: -1, Cas: -2, Uses: -3, Most: -4, Held: [4]int{-1, -2, -3, -4}, Items: []api.Item{odd, odd}})...) {
		in, asItWas := roomy(s)
		got := store.Copy(in)
		if !same(got, s) {
			t.Errorf("Copy(%v): %v", s, got)
		}
		scribble(got)
		if !asItWas() {
			t.Errorf("Copy(%v) shares memory with it", s)
		}
	}
}

// P3.3, P3.6: nor are the texts of an answer those that were handed in.
func TestTextsAreNotKept(t *testing.T) {
	r := api.Request{Kind: api.Set, Key: "kk", Value: "vv"}
	s, _, _ := store.Do(with(1, [4]int{}, 0, flashOf(0, 1)), r)
	u := store.Copy(s)
	for _, c := range []struct{ in, out string }{
		{r.Key, s.Items[0].Key}, {r.Value, s.Items[0].Value},
		{s.Items[0].Key, u.Items[0].Key}, {s.Items[0].Value, u.Items[0].Value},
	} {
		if c.in != c.out || unsafe.StringData(c.in) == unsafe.StringData(c.out) {
			t.Errorf("%q is the memory of what was handed in", c.out)
		}
	}
}

// P3.7
func TestTick(t *testing.T) {
	s := with(1, [4]int{1}, 9, flashOf(1, 2, page(1, value(30))), near("a", "1", 3), far("b", 1, 0, 9))
	s.Items[0].Until = 4 // an item whose time is over stays until it is asked
	for _, c := range []struct{ clock, n, want int }{
		{0, 0, 0}, {0, 1, 1}, {5, 3, 8}, {7, api.MaxTick, 7 + api.MaxTick},
		{api.MaxNumber - 1, 1, api.MaxNumber}, {api.MaxNumber, 0, api.MaxNumber}, {api.MaxNumber - api.MaxTick, api.MaxTick, api.MaxNumber},
	} {
		s.Clock = c.clock
		want := s
		want.Clock = c.want
		in, asItWas := roomy(s)
		got, e := store.Tick(in, c.n)
		if e != api.OK || !same(got, want) {
			t.Errorf("Tick(%v, %d): %v, %v", s, c.n, got, e)
		}
		scribble(got)
		if !asItWas() {
			t.Errorf("Tick(%v, %d): what was handed in is not as it was", s, c.n)
		}
	}
}

// P3.7
func TestTickRefuses(t *testing.T) {
	s, _ := store.New(api.Setup{Pages: 1, Flash: 1})
	for _, c := range []struct{ clock, n int }{
		{0, -1}, {0, api.MaxTick + 1}, {0, math.MinInt}, {0, math.MaxInt}, {50, -1},
		{api.MaxNumber, 1}, {api.MaxNumber - 1, 2}, {api.MaxNumber - api.MaxTick + 1, api.MaxTick}, {api.MaxNumber, math.MaxInt},
	} {
		s.Clock = c.clock
		if got, e := store.Tick(s, c.n); e != api.ErrRange || !same(got, api.Store{}) {
			t.Errorf("Tick(%v, %d): %v, %v", s, c.n, got, e)
		}
	}
}
