package store_test

import (
	"fmt"
	"testing"

	"dovecote/api"
	"dovecote/store"
)

// setTo: a Set of a key to a value of so many bytes.
func setTo(key string, bytes int) api.Request {
	return api.Request{Kind: api.Set, Key: key, Value: value(bytes)}
}

// P3.5: a chunk of a held page, else a page more.
func TestPutWhereThereIsRoom(t *testing.T) {
	no := flashOf(0, 1)
	wantSteps(t, []step{
		{"the first page", with(1, [4]int{}, 0, no), setTo("a", 1), told(api.Stored), with(1, [4]int{1}, 1, no, near("a", value(1), 1))},
		{"of another class", with(2, [4]int{1}, 1, no, near("a", "", 1)), setTo("b", 60), told(api.Stored),
			with(2, [4]int{1, 0, 1}, 2, no, near("a", "", 1), near("b", value(60), 2))},
		{"a chunk that is free", with(9, [4]int{0, 1}, 1, no, near("b", value(24), 1)), setTo("a", 55), told(api.Stored),
			with(9, [4]int{0, 1}, 2, no, near("a", value(55), 2), near("b", value(24), 1))},
		{"a page more", with(2, [4]int{0, 0, 0, 1}, 1, no, near("a", value(200), 1)), setTo("b", 200), told(api.Stored),
			with(2, [4]int{0, 0, 0, 2}, 2, no, near("a", value(200), 1), near("b", value(200), 2))},
		{"the chunk of the one with its key", with(1, [4]int{0, 0, 0, 1}, 1, no, near("a", value(200), 1)), setTo("a", 150), told(api.Stored),
			with(1, [4]int{0, 0, 0, 1}, 2, no, near("a", value(150), 2))},
		{"a page of a class stays its own", with(2, [4]int{1}, 1, no, near("a", "", 1)), setTo("a", 200), told(api.Stored),
			with(2, [4]int{1, 0, 0, 1}, 2, no, near("a", value(200), 2))},
		{"far ones have no chunk", with(1, [4]int{0, 1}, 1, flashOf(1, 2, page(1, value(30))), farOnes(9, api.Place{Page: 1})...), setTo("1", 30), told(api.Stored),
			with(1, [4]int{0, 1}, 2, flashOf(1, 2, page(1, value(30))), append(farOnes(9, api.Place{Page: 1}), near("1", value(30), 2))...)},
	})
}

// P3.5: how many items a page of each class takes, up to the last one, with no page and no item that had to go.
func TestPutFillsPages(t *testing.T) {
	for class, c := range []struct{ bytes, chunks int }{{10, 8}, {40, 4}, {100, 2}, {200, 1}} {
		const pages = 3
		s, _ := store.New(api.Setup{Pages: pages, Flash: 1})
		for i := range pages * c.chunks {
			u, x, e := store.Do(s, setTo(fmt.Sprintf("%03d", i), c.bytes))
			if e != api.OK || x.Kind != api.Stored || len(u.Items) != i+1 || u.Held[class] != 1+i/c.chunks {
				t.Fatalf("class %d, item %d: %v, %v, %v", class, i, u, x, e)
			}
			s = u
		}
		u, x, e := store.Do(s, setTo("more", c.bytes))
		gone := class == 0 // their values are too short for flash
		if e != api.OK || x.Kind != api.Stored || u.Items[0].Far == gone || (len(u.Items) == len(s.Items)) != gone {
			t.Errorf("class %d, one more: %v, %v, %v", class, u, x, e)
		}
	}
}

// P3.5: who makes room, and where it goes.
func TestPutPushesOut(t *testing.T) {
	held := [4]int{0, 1}
	full := func(f api.Flash, b int) api.Store {
		return with(1, held, 4, f, near("a", value(30), 3), near("b", value(b), 1), near("c", value(40), 2), near("d", value(50), 4))
	}
	rest := func(f api.Flash, l ...api.Item) api.Store {
		return with(1, held, 5, f, append(append([]api.Item{near("a", value(30), 3)}, l...), near("c", value(40), 2), near("d", value(50), 4), near("n", value(25), 5))...)
	}
	lastFlash := flashOf(1, api.MaxNumber, page(api.MaxNumber-1, "x"))
	longKey := "bbbbbbbbbbbbbbbbbbbb"
	short := full(flashOf(1, 1), 30)
	short.Items[1] = near(longKey, value(23), 1)
	edge := full(flashOf(1, 1), 30)
	edge.Items[1] = near(longKey, value(24), 1)
	wantSteps(t, []step{
		{"to flash", full(flashOf(1, 1), 30), setTo("n", 25), told(api.Stored), rest(flashOf(1, 2, page(1, value(30))), far("b", 1, 0, 1))},
		{"to flash, behind others", full(flashOf(1, 2, page(1, "x")), 30), setTo("n", 25), told(api.Stored), rest(flashOf(1, 2, page(1, "x", value(30))), far("b", 1, 4, 1))},
		{"the least value that may", edge, setTo("n", 25), told(api.Stored), rest(flashOf(1, 2, page(1, value(24))), far(longKey, 1, 0, 1))},
		{"too short a value", short, setTo("n", 25), told(api.Stored), rest(flashOf(1, 1))},
		{"flash takes nothing", full(flashOf(0, 1), 30), setTo("n", 25), told(api.Stored), rest(flashOf(0, 1))},
		{"flash takes nothing any more", full(lastFlash, 30), setTo("n", 25), told(api.Stored), rest(lastFlash)},
		{"the one with its key went first", full(flashOf(1, 1), 30), setTo("d", 55), told(api.Stored),
			with(1, held, 5, flashOf(1, 1), near("a", value(30), 3), near("b", value(30), 1), near("c", value(40), 2), near("d", value(55), 5))},
	})
}

// P3.5: the rest of an item that goes to flash stays.
func TestPutKeepsWhatIsFar(t *testing.T) {
	it := api.Item{Key: "a", Flags: 9, Until: 99, Cas: 2, Used: 3, Value: value(200)}
	s := with(1, [4]int{0, 0, 0, 1}, 5, flashOf(1, 1), it)
	it.Value, it.Far, it.Where = "", true, api.Place{Page: 1}
	b := api.Item{Key: "b", Value: value(150), Cas: 6, Used: 6}
	wantSteps(t, []step{{"far", s, setTo("b", 150), told(api.Stored), with(1, [4]int{0, 0, 0, 1}, 6, flashOf(1, 2, page(1, value(200))), it, b)}})
}

// P3.5: of several with the least Used the first one; of other classes, and far, none.
func TestPutChoosesWhoGoes(t *testing.T) {
	f := flashOf(2, 2, page(1, value(30)))
	held := [4]int{1, 0, 1, 0}
	s := with(2, held, 9, f, far("a", 1, 0, 1), near("b", "", 1), near("c", value(70), 4), near("d", value(80), 4))
	c := far("c", 1, 33, 4)
	want := with(2, held, 10, flashOf(2, 2, page(1, value(30), value(70))), s.Items[0], s.Items[1], c, s.Items[3], near("e", value(90), 10))
	last := s
	last.Items = append([]api.Item(nil), s.Items...)
	last.Items[3].Used = 3
	d := far("d", 1, 33, 4)
	d.Used = 3
	wantLast := with(2, held, 10, flashOf(2, 2, page(1, value(30), value(80))), s.Items[0], s.Items[1], s.Items[2], d, near("e", value(90), 10))
	wantSteps(t, []step{
		{"the first of several", s, setTo("e", 90), told(api.Stored), want},
		{"a later one", last, setTo("e", 90), told(api.Stored), wantLast},
	})
}

// P3.5: far ones go with their page, those on others stay.
func TestPutTakesPagesAway(t *testing.T) {
	f := flashOf(2, 9, page(7, value(60), value(70)), page(8, value(200)))
	held := [4]int{0, 0, 0, 1}
	s := with(1, held, 9, f, far("a", 7, 0, 1), far("b", 8, 0, 2), far("c", 7, 63, 3), near("d", value(190), 4), far("e", 7, 0, 5))
	want := with(1, held, 10, flashOf(2, 10, page(8, value(200)), page(9, value(190))), far("b", 8, 0, 2), far("d", 9, 0, 4), near("n", value(150), 10))
	only := with(1, held, 9, flashOf(1, 2, page(1, value(197))), far("a", 1, 0, 1), near("d", value(190), 4))
	wantOnly := with(1, held, 10, flashOf(1, 3, page(2, value(190))), far("d", 2, 0, 4), near("n", value(150), 10))
	wantSteps(t, []step{
		{"of two", s, setTo("n", 150), told(api.Stored), want},
		{"the only one", only, setTo("n", 150), told(api.Stored), wantOnly},
	})
}

// P3.5: all pages are held, and none of them by an item's class.
func TestPutWithoutRoom(t *testing.T) {
	no := flashOf(1, 1)
	s := with(1, [4]int{1}, 2, no, near("a", "1", 1), near("b", "2", 2))
	without := func(i int) api.Store {
		u := s
		u.Items = []api.Item{s.Items[1-i]}
		return u
	}
	bare := with(0, [4]int{}, 0, no)
	set := func(kind, n int) api.Request {
		return api.Request{Kind: kind, Key: "a", N: n, Value: value(100)}
	}
	wantSteps(t, []step{
		{"no memory", bare, setTo("a", 0), told(api.NoRoom), bare},
		{"no memory, add", bare, api.Request{Kind: api.Add, Key: "a"}, told(api.NoRoom), bare},
		{"another class", s, setTo("c", 100), told(api.NoRoom), s},
		{"the one with its key goes", s, set(api.Set, 0), told(api.NoRoom), without(0)},
		{"replace", s, set(api.Replace, 0), told(api.NoRoom), without(0)},
		{"cas", s, set(api.Cas, 1), told(api.NoRoom), without(0)},
		{"append", s, set(api.Append, 0), told(api.NoRoom), without(0)},
		{"prepend", s, set(api.Prepend, 0), told(api.NoRoom), without(0)},
	})
	digits := api.Request{Kind: api.Incr, Key: "kkkkkkkkkkkkkkkkkkkk", N: 1}
	most := with(1, [4]int{1}, 2, no, near(digits.Key, "9999", 2))
	wantSteps(t, []step{{"a number with a digit more", most, digits, told(api.NoRoom), with(1, [4]int{1}, 2, no)}})
}

// P3.5: the store's Cas is MaxNumber.
func TestPutBehindTheLastNumber(t *testing.T) {
	s := with(2, [4]int{0, 0, 0, 1}, 9, flashOf(1, 1), near("a", value(200), 1), near("b", "7", 2))
	s.Held[0] = 1
	s.Cas = api.MaxNumber
	free := s
	free.Most = 3
	withA, withB := s, s
	withA.Items, withB.Items = s.Items[:1], s.Items[1:]
	wantSteps(t, []step{
		{"nothing makes room", s, setTo("c", 200), told(api.NoRoom), s},
		{"no page is held", free, setTo("c", 200), told(api.NoRoom), free},
		{"no chunk is taken", s, setTo("c", 1), told(api.NoRoom), s},
		{"the one with its key goes", s, setTo("a", 200), told(api.NoRoom), withB},
		{"add to one", s, api.Request{Kind: api.Add, Key: "a"}, told(api.Not), s},
		{"append too much", s, api.Request{Kind: api.Append, Key: "a", Value: "v"}, told(api.NoRoom), s},
		{"append", s, api.Request{Kind: api.Append, Key: "b", Value: "v"}, told(api.NoRoom), withA},
		{"incr", s, api.Request{Kind: api.Incr, Key: "b"}, told(api.NoRoom), withA},
		{"no number", s, api.Request{Kind: api.Incr, Key: "a"}, told(api.NoCount), s},
	})
	s.Cas = api.MaxNumber - 1
	u, x, e := store.Do(s, setTo("c", 1))
	if e != api.OK || x.Kind != api.Stored || u.Cas != api.MaxNumber || u.Items[2].Cas != api.MaxNumber || store.Check(u) != api.OK {
		t.Errorf("the last number: %v, %v, %v", u, x, e)
	}
}

// P3.5: MaxItems items are there when room has been made; what was done for it stays.
func TestPutBeyondMaxItems(t *testing.T) {
	where := api.Place{Page: 1}
	f := flashOf(1, 2, page(1, value(30)))
	crowd := func(f api.Flash, most int, held [4]int, n, far int, l ...api.Item) api.Store {
		return with(most, held, n, f, append(farOnes(far, where), l...)...)
	}
	long, key := near("a", value(200), 1), near("n", value(150), 2)
	moved := far("a", 1, 33, 1)
	fullFlash := flashOf(1, 2, page(1, value(100)))
	last := [4]int{0, 0, 0, 1}
	no := flashOf(1, api.MaxNumber, page(api.MaxNumber-1, value(30)))
	where2 := api.Place{Page: api.MaxNumber - 1}
	wantSteps(t, []step{
		{"one less", crowd(f, 1, last, 1, 999), setTo("n", 150), told(api.Stored), crowd(f, 1, last, 2, 999, key)},
		{"a chunk is free", crowd(f, 1, last, 1, 1000), setTo("n", 150), told(api.NoRoom), crowd(f, 1, last, 1, 1000)},
		{"a page is free, and held then", crowd(f, 1, [4]int{}, 1, 1000), setTo("n", 150), told(api.NoRoom), crowd(f, 1, last, 1, 1000)},
		{"instead of one of them", crowd(f, 1, last, 1, 1000), setTo("0999", 150), told(api.Stored), crowd(f, 1, last, 2, 999, near("0999", value(150), 2))},
		{"one goes to flash", crowd(f, 1, last, 1, 999, long), setTo("n", 150), told(api.NoRoom),
			crowd(flashOf(1, 2, page(1, value(30), value(200))), 1, last, 1, 999, moved)},
		{"one goes to flash, and a page goes", crowd(fullFlash, 1, last, 1, 999, long), setTo("n", 150), told(api.Stored),
			with(1, last, 2, flashOf(1, 3, page(2, value(200))), far("a", 2, 0, 1), key)},
		{"one goes for good", with(1, last, 1, no, append(farOnes(999, where2), long)...), setTo("n", 150), told(api.Stored),
			with(1, last, 2, no, append(farOnes(999, where2), key)...)},
	})
}
