package store_test

import (
	"fmt"
	"math"
	"testing"

	"dovecote/api"
	"dovecote/store"
)

// filled: so many items in memory with values of so many bytes; their keys have four bytes.
func filled(n, bytes int) []api.Item {
	var l []api.Item
	for i := range n {
		l = append(l, near(fmt.Sprintf("%04d", i), value(bytes), i+1))
	}
	return l
}

// farOnes: so many items at one place.
func farOnes(n int, where api.Place) []api.Item {
	var l []api.Item
	for i := range n {
		l = append(l, far(fmt.Sprintf("%04d", i), where.Page, where.At, 1))
	}
	return l
}

// usual: a store with items in memory and on flash.
func usual() api.Store {
	f := flashOf(2, 9, page(7, "short", value(24)), page(8, value(200), value(50)))
	s := with(4, [4]int{1, 1, 0, 1}, 50, f,
		near("a", "1", 3), near("b", value(40), 50), far("c", 7, 8, 4), far("d", 8, 203, 5), near("e", "", 1), near("f", value(200), 2))
	s.Clock = 6
	return s
}

// changed: the usual store with one thing other than it was.
func changed(change func(s *api.Store)) api.Store {
	s := usual()
	change(&s)
	return s
}

// item of the usual store, other than it was: the first one is in memory, the third and the fourth are far.
func item(i int, change func(it *api.Item)) api.Store {
	return changed(func(s *api.Store) { change(&s.Items[i]) })
}

func mayBe() []api.Store {
	return []api.Store{
		with(0, [4]int{}, 0, flashOf(0, 1)),
		with(api.MaxPages, [4]int{}, 0, flashOf(api.MaxFlash, 1)),
		with(api.MaxPages, [4]int{10, 10, 10, 10}, api.MaxNumber, flashOf(0, 1)),
		with(api.MaxPages, [4]int{0, 0, api.MaxPages, 0}, 0, flashOf(0, 1)),
		with(1, [4]int{1}, 8, flashOf(0, 1), filled(8, 0)...),
		with(1, [4]int{0, 1}, 4, flashOf(0, 1), filled(4, 21)...),
		with(1, [4]int{0, 0, 1}, 2, flashOf(0, 1), filled(2, 53)...),
		with(1, [4]int{0, 0, 0, 1}, 1, flashOf(0, 1), filled(1, 117)...),
		with(3, [4]int{2, 0, 0, 1}, 16, flashOf(0, 1), filled(16, 20)...),
		with(0, [4]int{}, 1, flashOf(1, 2, page(1, value(24))), farOnes(api.MaxItems, api.Place{Page: 1})...),
		usual(),
		changed(func(s *api.Store) { s.Clock = api.MaxNumber }),
		changed(func(s *api.Store) { s.Cas, s.Uses = api.MaxNumber, api.MaxNumber }),
		changed(func(s *api.Store) { s.Held[1] = 2 }),
		item(0, func(it *api.Item) { it.Key = "!" }),
		item(0, func(it *api.Item) { it.Flags, it.Until, it.Cas, it.Used = api.MaxFlags, api.MaxNumber, 50, 50 }),
		item(0, func(it *api.Item) { it.Until = 1 }), // its time is over
		item(2, func(it *api.Item) { it.Where = api.Place{Page: 8} }),
		item(2, func(it *api.Item) { it.Where = api.Place{Page: 8, At: 203} }), // two at one place
	}
}

func mayNotBe() []api.Store {
	l := append(outOfBounds(), wrongItems()...)
	return append(l,
		with(1, [4]int{}, 1, flashOf(0, 1), filled(1, 0)...),
		with(1, [4]int{1}, 9, flashOf(0, 1), filled(9, 0)...),
		with(1, [4]int{0, 1}, 1, flashOf(0, 1), filled(1, 20)...),
		with(1, [4]int{1}, 1, flashOf(0, 1), filled(1, 21)...),
		with(1, [4]int{0, 1}, 5, flashOf(0, 1), filled(5, 21)...),
		with(1, [4]int{0, 0, 1}, 3, flashOf(0, 1), filled(3, 53)...),
		with(1, [4]int{0, 0, 0, 1}, 2, flashOf(0, 1), filled(2, 117)...),
		with(api.MaxPages, [4]int{0, 0, 0, api.MaxPages}, 41, flashOf(0, 1), filled(41, 200)...),
		with(0, [4]int{}, 1, flashOf(1, 2, page(1, value(24))), farOnes(api.MaxItems+1, api.Place{Page: 1})...),
		with(0, [4]int{}, 1, flashOf(1, 2, page(1, value(23))), farOnes(1, api.Place{Page: 1})...),
		with(0, [4]int{}, 1, flashOf(1, 2, page(1, "")), farOnes(1, api.Place{Page: 1})...),
	)
}

// outOfBounds: numbers that may not be, and flash that may not.
func outOfBounds() []api.Store {
	l := []api.Store{
		{},
		changed(func(s *api.Store) { s.Most = 2 }),
		changed(func(s *api.Store) { s.Most = api.MaxPages + 1 }),
		changed(func(s *api.Store) { s.Held[2] = 2 }),
		changed(func(s *api.Store) { s.Held = [4]int{1, 4, 0, 1} }),
		changed(func(s *api.Store) { s.Held = [4]int{math.MaxInt, math.MaxInt, 4, 1} }), // their sum would wrap round
		changed(func(s *api.Store) { s.Held = [4]int{1, 1, -1, 1} }),
		changed(func(s *api.Store) { s.Cas = 49 }),
		changed(func(s *api.Store) { s.Uses = 49 }),
		changed(func(s *api.Store) { s.Flash.Most = 1 }),
		changed(func(s *api.Store) { s.Flash.Next = 10 }),
		changed(func(s *api.Store) { s.Flash.Pages[0].Bytes[9]++ }),
		changed(func(s *api.Store) { s.Flash.Pages = s.Flash.Pages[1:] }),
		changed(func(s *api.Store) { s.Items[0], s.Items[1] = s.Items[1], s.Items[0] }),
		changed(func(s *api.Store) { s.Items[4].Key = s.Items[3].Key }),
		changed(func(s *api.Store) { s.Items[5].Key = "F" }),
	}
	for _, n := range []int{-1, api.MaxNumber + 1, math.MinInt, math.MaxInt} {
		l = append(l,
			changed(func(s *api.Store) { s.Clock = n }),
			changed(func(s *api.Store) { s.Cas = n }),
			changed(func(s *api.Store) { s.Uses = n }),
			changed(func(s *api.Store) { s.Most = n }),
			changed(func(s *api.Store) { s.Held[2] = n }))
	}
	return l
}

// wrongItems: stores with one item that may not be.
func wrongItems() []api.Store {
	var l []api.Store
	for _, change := range []func(it *api.Item){
		func(it *api.Item) { it.Flags = -1 },
		func(it *api.Item) { it.Flags = api.MaxFlags + 1 },
		func(it *api.Item) { it.Until = -1 },
		func(it *api.Item) { it.Until = api.MaxNumber + 1 },
		func(it *api.Item) { it.Cas = 0 },
		func(it *api.Item) { it.Cas = -1 },
		func(it *api.Item) { it.Cas = 51 },
		func(it *api.Item) { it.Used = 0 },
		func(it *api.Item) { it.Used = math.MinInt },
		func(it *api.Item) { it.Used = 51 },
		func(it *api.Item) { it.Value = value(201) },
		func(it *api.Item) { it.Value = value(1000) },
		func(it *api.Item) { it.Far = !it.Far },
		func(it *api.Item) { it.Where = api.Place{Page: 7} }, // too short a value
		func(it *api.Item) { it.Where = api.Place{Page: 7, At: 7} },
		func(it *api.Item) { it.Where = api.Place{Page: 7, At: 35} },
		func(it *api.Item) { it.Where = api.Place{Page: 6} },
		func(it *api.Item) { it.Where = api.Place{Page: 9} },
		func(it *api.Item) { it.Where = api.Place{Page: 8, At: -1} },
		func(it *api.Item) { it.Where = api.Place{Page: math.MinInt, At: math.MaxInt} },
	} {
		l = append(l, item(0, change), item(2, change))
	}
	for _, key := range []string{"", " ", "\x7f", "a b"} {
		l = append(l, item(0, func(it *api.Item) { it.Key = key }))
	}
	return append(l,
		item(5, func(it *api.Item) { it.Key = "fffffffffffffffffffff" }),
		item(5, func(it *api.Item) { it.Key = "\u00e4" }),
		item(0, func(it *api.Item) { it.Where.Page = 1 }),
		item(0, func(it *api.Item) { it.Where.At = 1 }),
		item(2, func(it *api.Item) { it.Where = api.Place{} }),
		item(2, func(it *api.Item) { it.Value = "v" }),
		item(2, func(it *api.Item) { it.Value = value(24) }))
}

// P3.3
func TestCheck(t *testing.T) {
	for _, s := range mayBe() {
		in, asItWas := roomy(s)
		if e := store.Check(in); e != api.OK {
			t.Errorf("Check(%v): %v", s, e)
		}
		if !asItWas() {
			t.Errorf("Check(%v): what was handed in is not as it was", s)
		}
	}
	for _, s := range mayNotBe() {
		if e := store.Check(s); e != api.ErrState {
			t.Errorf("Check(%v): %v, want %v", s, e, api.ErrState)
		}
	}
}

// P3.3: ahead of all else, so also where the request, or the number of ticks, may not be.
func TestRefuseWhatCheckRefuses(t *testing.T) {
	for _, s := range mayNotBe() {
		for _, r := range []api.Request{{}, {Kind: api.Bad}, {Kind: api.Flush}, {Kind: api.Set, Key: "a"}, {Kind: api.Get}} {
			if u, x, e := store.Do(s, r); e != api.ErrState || !same(u, api.Store{}) || !sameReply(x, api.Reply{}) {
				t.Errorf("Do(%v, %v): %v, %v, %v", s, r, u, x, e)
			}
		}
		for _, n := range []int{0, 1, -1, api.MaxTick + 1} {
			if u, e := store.Tick(s, n); e != api.ErrState || !same(u, api.Store{}) {
				t.Errorf("Tick(%v, %d): %v, %v", s, n, u, e)
			}
		}
	}
}
