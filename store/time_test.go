package store_test

import (
	"testing"

	"dovecote/api"
	"dovecote/store"
)

// P3.4: an item is there up to the tick ahead of Until.
func TestUntilIsNotAboveTheClock(t *testing.T) {
	for _, c := range []struct {
		until, clock int
		there        bool
	}{
		{0, 0, true}, {0, 5, true}, {0, api.MaxNumber, true},
		{1, 0, true}, {1, 1, false}, {1, 2, false},
		{100, 99, true}, {100, 100, false}, {100, 101, false},
		{api.MaxNumber, api.MaxNumber - 1, true}, {api.MaxNumber, api.MaxNumber, false},
	} {
		for _, it := range []api.Item{kept("v"), away()} {
			it.Until = c.until
			s := one(it)
			s.Clock = c.clock
			u, x, e := store.Do(s, api.Request{Kind: api.Get, Keys: []string{"k"}})
			if e != api.OK || (len(x.Hits) == 1) != c.there || (len(u.Items) == 1) != c.there || (u.Uses == 21) != c.there {
				t.Errorf("until %d at %d: %v, %v, %v", c.until, c.clock, u, x, e)
			}
		}
	}
}

// P3.4
func TestUntilInSoManyTicks(t *testing.T) {
	for _, c := range []struct{ clock, exp, want int }{
		{0, 0, 0}, {5, 0, 0}, {api.MaxNumber, 0, 0},
		{0, 1, 1}, {5, 1, 6}, {5, 1000, 1005},
		{0, api.MaxNumber, api.MaxNumber}, {1, api.MaxNumber, api.MaxNumber}, {api.MaxNumber, api.MaxNumber, api.MaxNumber},
		{api.MaxNumber - 1, 1, api.MaxNumber}, {api.MaxNumber - 1, 2, api.MaxNumber}, {api.MaxNumber, 1, api.MaxNumber},
	} {
		it := kept("v")
		it.Until = 0
		s := one(it)
		s.Clock = c.clock
		for _, r := range []api.Request{
			{Kind: api.Set, Key: "k", Exp: c.exp}, {Kind: api.Add, Key: "n", Exp: c.exp}, {Kind: api.Replace, Key: "k", Exp: c.exp},
			{Kind: api.Cas, Key: "k", Exp: c.exp, N: 5}, {Kind: api.Touch, Key: "k", Exp: c.exp},
		} {
			u, x, e := store.Do(s, r)
			if e != api.OK || u.Items[len(u.Items)-1].Until != c.want {
				t.Errorf("at %d, %v: %v, %v, %v, want %d", c.clock, r, u, x, e, c.want)
			}
		}
	}
}

// P3.4: only who asks for its key takes an item away whose time is over.
func TestOthersLeaveWhatIsOver(t *testing.T) {
	a, b := near("a", "1", 1), near("b", "1", 2)
	a.Until, b.Until = 3, 3
	s := with(1, [4]int{1}, 2, flashOf(0, 1), a, b)
	s.Clock = 3
	want := s
	want.Items = []api.Item{b}
	wantSteps(t, []step{
		{"get", s, api.Request{Kind: api.Get, Keys: []string{"a"}}, told(api.Values), want},
		{"get twice", s, api.Request{Kind: api.Get, Keys: []string{"a", "a"}}, told(api.Values), want},
		{"get another", s, api.Request{Kind: api.Get, Keys: []string{"c"}}, told(api.Values), s},
		{"delete another", s, api.Request{Kind: api.Delete, Key: "c"}, told(api.Missing), s},
		{"bad", s, api.Request{Kind: api.Bad}, told(api.Failed), s},
	})
}

// P3.4, P3.5: as long as nobody asked for it, it has its chunk, and may be the one that makes room.
func TestWhatIsOverHasItsChunk(t *testing.T) {
	a, b := near("a", value(150), 1), near("b", value(150), 2)
	a.Until, b.Until = 9, 3
	s := with(2, [4]int{0, 0, 0, 2}, 2, flashOf(1, 1), a, b)
	s.Clock = 3
	want := with(2, [4]int{0, 0, 0, 2}, 3, flashOf(1, 2, page(1, value(150))), far("a", 1, 0, 1), b, near("c", value(180), 3))
	want.Items[0].Until, want.Clock = 9, 3
	wantSteps(t, []step{{"the other one goes", s, api.Request{Kind: api.Set, Key: "c", Value: value(180)}, told(api.Stored), want}})

	s.Items[0].Used, s.Items[1].Used = 2, 1
	want.Items = []api.Item{s.Items[0], far("b", 1, 0, 2), near("c", value(180), 3)}
	want.Items[1].Until, want.Items[1].Used = 3, 1
	wantSteps(t, []step{{"it goes to flash", s, api.Request{Kind: api.Set, Key: "c", Value: value(180)}, told(api.Stored), want}})
}

// P3.4, P3.7
func TestTimePasses(t *testing.T) {
	s, _ := store.New(api.Setup{Pages: 1})
	s, _, _ = store.Do(s, api.Request{Kind: api.Set, Key: "k", Exp: 3, Value: "v"})
	get := api.Request{Kind: api.Get, Keys: []string{"k"}}
	for tick := 1; tick <= 5; tick++ {
		s, _ = store.Tick(s, 1)
		u, x, e := store.Do(s, get)
		if e != api.OK || (len(x.Hits) == 1) != (tick < 3) {
			t.Errorf("tick %d: %v, %v", tick, x, e)
		}
		s = u
	}
}
