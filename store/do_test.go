package store_test

import (
	"math"
	"testing"

	"dovecote/api"
	"dovecote/store"
)

// step: a request, and what is asked of its answer.
type step struct {
	what  string
	s     api.Store
	r     api.Request
	reply api.Reply
	want  api.Store
}

// told: a reply that is its kind alone.
func told(kind int) api.Reply { return api.Reply{Kind: kind} }

// keyed: a request of a kind for the key "k".
func keyed(kind int) api.Request { return api.Request{Kind: kind, Key: "k"} }

// wantSteps: each is answered as it should be, with memory of its own, and may be.
func wantSteps(t *testing.T, l []step) {
	t.Helper()
	for _, c := range l {
		in, asItWas := roomy(c.s)
		got, reply, e := store.Do(in, c.r)
		if e != api.OK || !sameReply(reply, c.reply) || !same(got, c.want) {
			t.Errorf("%s:\n%v, %v, %v, want\n%v, %v", c.what, got, reply, e, c.want, c.reply)
		}
		if e := store.Check(got); e != api.OK {
			t.Errorf("%s: Check: %v", c.what, e)
		}
		scribble(got)
		if !asItWas() {
			t.Errorf("%s: what was handed in is not as it was", c.what)
		}
	}
}

// one: a store with an item "k", and room for more.
func one(it api.Item) api.Store {
	it.Key = "k"
	s := with(9, [4]int{1, 1, 1, 1}, 20, flashOf(1, 2, page(1, value(30))), it)
	s.Clock = 100
	return s
}

// none: that store without it.
func none() api.Store {
	s := one(api.Item{})
	s.Items = nil
	return s
}

// kept: an item as it may stand there, in memory.
func kept(value string) api.Item {
	return api.Item{Flags: 7, Until: 150, Cas: 5, Used: 6, Value: value}
}

// away: an item as it may stand there, on flash; its value has 30 bytes.
func away() api.Item {
	return api.Item{Flags: 7, Until: 150, Cas: 5, Used: 6, Far: true, Where: api.Place{Page: 1}}
}

// over: the same item, whose time is over.
func over(it api.Item) api.Item {
	it.Until = 100
	return it
}

// put: the store with that item put instead.
func put(it api.Item) api.Store {
	it.Cas, it.Used = 21, 21
	s := one(it)
	s.Cas, s.Uses = 21, 21
	return s
}

// asked: the store with that item, asked once more.
func asked(it api.Item) api.Store {
	it.Used = 21
	s := one(it)
	s.Uses = 21
	return s
}

// P3.6: What wire's Check refuses, ahead of how great Uses is.
func TestDoRefuses(t *testing.T) {
	late := with(1, [4]int{}, api.MaxNumber-api.MaxKeys+1, flashOf(0, 1))
	last := late
	last.Uses = api.MaxNumber
	for _, c := range []struct {
		r    api.Request
		want api.Errno
	}{
		{api.Request{}, api.ErrKind},
		{api.Request{Kind: -1}, api.ErrKind},
		{api.Request{Kind: api.Bad + 1}, api.ErrKind},
		{api.Request{Kind: math.MaxInt}, api.ErrKind},
		{api.Request{Kind: api.Get}, api.ErrForm},
		{api.Request{Kind: api.Get, Keys: make([]string, api.MaxKeys+1)}, api.ErrForm},
		{api.Request{Kind: api.Set}, api.ErrForm},
		{api.Request{Kind: api.Delete, Key: "k", Value: "v"}, api.ErrForm},
		{api.Request{Kind: api.Bad, Quiet: true}, api.ErrForm},
		{api.Request{Kind: api.Set, Key: "k", Flags: -1}, api.ErrRange},
		{api.Request{Kind: api.Incr, Key: "k", N: api.MaxNumber + 1}, api.ErrRange},
		{api.Request{Kind: api.Set, Key: "k", Value: value(201)}, api.ErrSize},
	} {
		for _, s := range []api.Store{usual(), late, last} {
			if u, x, e := store.Do(s, c.r); e != c.want || !same(u, api.Store{}) || !sameReply(x, api.Reply{}) {
				t.Errorf("Do(%v, %v): %v, %v, %v, want %v", s, c.r, u, x, e, c.want)
			}
		}
	}
	for _, r := range []api.Request{{Kind: api.Get, Keys: []string{"k"}}, keyed(api.Set), keyed(api.Delete), {Kind: api.Flush}, {Kind: api.Bad}} {
		for _, s := range []api.Store{late, last} {
			if u, x, e := store.Do(s, r); e != api.ErrRange || !same(u, api.Store{}) || !sameReply(x, api.Reply{}) {
				t.Errorf("Do(%v, %v): %v, %v, %v", s, r, u, x, e)
			}
		}
	}
}

// P3.6, P3.4: the last time that keys can be asked.
func TestDoUpToTheLastUse(t *testing.T) {
	s := with(1, [4]int{1}, api.MaxNumber-api.MaxKeys, flashOf(0, 1), near("k", "1", 1))
	keys := make([]string, api.MaxKeys)
	for i := range keys {
		keys[i] = "k"
	}
	u, x, e := store.Do(s, api.Request{Kind: api.Get, Keys: keys})
	if e != api.OK || len(x.Hits) != api.MaxKeys || u.Uses != api.MaxNumber || u.Items[0].Used != api.MaxNumber {
		t.Errorf("%v, %v, %v", u, x, e)
	}
}

// P3.6
func TestGet(t *testing.T) {
	s := usual()
	get := func(keys ...string) api.Request { return api.Request{Kind: api.Get, Keys: keys} }
	// askedFor: the usual store, where items were asked in that order.
	askedFor := func(l ...int) api.Store {
		return changed(func(s *api.Store) {
			for _, i := range l {
				s.Uses++
				s.Items[i].Used = s.Uses
			}
		})
	}
	a := api.Hit{Key: "a", Cas: 3, Value: "1"}
	d := api.Hit{Key: "d", Cas: 5, Value: value(50)}
	flags := item(1, func(it *api.Item) { it.Flags = 9 })
	flagsAsked := item(1, func(it *api.Item) { it.Flags, it.Used = 9, 51 })
	flagsAsked.Uses = 51
	wantSteps(t, []step{
		{"one", s, get("a"), api.Reply{Kind: api.Values, Hits: []api.Hit{a}}, askedFor(0)},
		{"a far one stays far", s, get("d"), api.Reply{Kind: api.Values, Hits: []api.Hit{d}}, askedFor(3)},
		{"key by key", s, get("d", "a"), api.Reply{Kind: api.Values, Hits: []api.Hit{d, a}}, askedFor(3, 0)},
		{"one twice", s, get("a", "d", "a"), api.Reply{Kind: api.Values, Hits: []api.Hit{a, d, a}}, askedFor(0, 3, 0)},
		{"none among others", s, get("x", "a", "A", "aa", "g"), api.Reply{Kind: api.Values, Hits: []api.Hit{a}}, askedFor(0)},
		{"none", s, get("x"), told(api.Values), s},
		{"a value without bytes", s, get("e"), api.Reply{Kind: api.Values, Hits: []api.Hit{{Key: "e", Cas: 1}}}, askedFor(4)},
		{"flags", flags, get("b"), api.Reply{Kind: api.Values, Hits: []api.Hit{{Key: "b", Flags: 9, Cas: 50, Value: value(40)}}}, flagsAsked},
	})
}

// P3.6
func TestSet(t *testing.T) {
	r := api.Request{Kind: api.Set, Key: "k", Flags: 3, Exp: 9, Value: "new"}
	want := put(api.Item{Flags: 3, Until: 109, Value: "new"})
	for _, quiet := range []bool{false, true} {
		r.Quiet = quiet
		wantSteps(t, []step{
			{"none", none(), r, told(api.Stored), want},
			{"instead of one", one(kept("old")), r, told(api.Stored), want},
			{"instead of a far one", one(away()), r, told(api.Stored), want},
			{"instead of one whose time is over", one(over(kept("old"))), r, told(api.Stored), want},
		})
	}
	wantSteps(t, []step{
		{"nothing but a key", none(), keyed(api.Set), told(api.Stored), put(api.Item{})},
		{"the most of all", none(), api.Request{Kind: api.Set, Key: "k", Flags: api.MaxFlags, Exp: api.MaxNumber, Value: value(200)}, told(api.Stored), put(api.Item{Flags: api.MaxFlags, Until: api.MaxNumber, Value: value(200)})},
		{"any bytes", none(), api.Request{Kind: api.Set, Key: "k", Value: "\x00\n\xff "}, told(api.Stored), put(api.Item{Value: "\x00\n\xff "})},
	})
}

// P3.6
func TestAddAndReplace(t *testing.T) {
	add := api.Request{Kind: api.Add, Key: "k", Flags: 3, Exp: 9, Value: "new"}
	replace := add
	replace.Kind = api.Replace
	want := put(api.Item{Flags: 3, Until: 109, Value: "new"})
	wantSteps(t, []step{
		{"add", none(), add, told(api.Stored), want},
		{"add to one", one(kept("old")), add, told(api.Not), one(kept("old"))},
		{"add to a far one", one(away()), add, told(api.Not), one(away())},
		{"add, its time is over", one(over(kept("old"))), add, told(api.Stored), want},
		{"replace none", none(), replace, told(api.Not), none()},
		{"replace", one(kept("old")), replace, told(api.Stored), want},
		{"replace a far one", one(away()), replace, told(api.Stored), want},
		{"replace, its time is over", one(over(kept("old"))), replace, told(api.Not), none()},
	})
}

// P3.6: Flags and Until stay as they were, whatever the request has.
func TestAppendAndPrepend(t *testing.T) {
	joined := func(value string) api.Store { return put(api.Item{Flags: 7, Until: 150, Value: value}) }
	request := func(kind int, value string) api.Request {
		return api.Request{Kind: kind, Key: "k", Flags: 3, Exp: 9, Value: value}
	}
	app := func(value string) api.Request { return request(api.Append, value) }
	pre := func(value string) api.Request { return request(api.Prepend, value) }
	wantSteps(t, []step{
		{"behind", one(kept("old")), app("new"), told(api.Stored), joined("oldnew")},
		{"ahead", one(kept("old")), pre("new"), told(api.Stored), joined("newold")},
		{"nothing behind", one(kept("old")), app(""), told(api.Stored), joined("old")},
		{"behind nothing", one(kept("")), app("new"), told(api.Stored), joined("new")},
		{"ahead of nothing", one(kept("")), pre("new"), told(api.Stored), joined("new")},
		{"behind a far one", one(away()), app("new"), told(api.Stored), joined(value(30) + "new")},
		{"ahead of a far one", one(away()), pre("new"), told(api.Stored), joined("new" + value(30))},
		{"as long as may be", one(kept("old")), app(value(197)), told(api.Stored), joined("old" + value(197))},
		{"too long behind", one(kept("old")), app(value(198)), told(api.NoRoom), one(kept("old"))},
		{"too long ahead", one(kept("old")), pre(value(198)), told(api.NoRoom), one(kept("old"))},
		{"too long behind a far one", one(away()), app(value(171)), told(api.NoRoom), one(away())},
		{"to none", none(), app("new"), told(api.Not), none()},
		{"ahead of none", none(), pre("new"), told(api.Not), none()},
		{"its time is over", one(over(kept("old"))), app("new"), told(api.Not), none()},
		{"its time is over, ahead", one(over(away())), pre(value(200)), told(api.Not), none()},
	})
}

// P3.6
func TestCas(t *testing.T) {
	cas := func(n int) api.Request {
		return api.Request{Kind: api.Cas, Key: "k", Flags: 3, Exp: 9, N: n, Value: "new"}
	}
	want := put(api.Item{Flags: 3, Until: 109, Value: "new"})
	wantSteps(t, []step{
		{"its number", one(kept("old")), cas(5), told(api.Stored), want},
		{"its number, far", one(away()), cas(5), told(api.Stored), want},
		{"one less", one(kept("old")), cas(4), told(api.Exists), one(kept("old"))},
		{"one more", one(kept("old")), cas(6), told(api.Exists), one(kept("old"))},
		{"the store's number", one(kept("old")), cas(20), told(api.Exists), one(kept("old"))},
		{"no number", one(kept("old")), cas(0), told(api.Exists), one(kept("old"))},
		{"none", none(), cas(5), told(api.Missing), none()},
		{"its time is over", one(over(kept("old"))), cas(5), told(api.Missing), none()},
		{"its time is over, another number", one(over(kept("old"))), cas(4), told(api.Missing), none()},
	})
}

// P3.6
func TestDelete(t *testing.T) {
	wantSteps(t, []step{
		{"one", one(kept("old")), keyed(api.Delete), told(api.Gone), none()},
		{"a far one", one(away()), keyed(api.Delete), told(api.Gone), none()},
		{"none", none(), keyed(api.Delete), told(api.Missing), none()},
		{"its time is over", one(over(kept("old"))), keyed(api.Delete), told(api.Missing), none()},
		{"one of many", usual(), api.Request{Kind: api.Delete, Key: "b"}, told(api.Gone), changed(func(s *api.Store) { s.Items = append(s.Items[:1], s.Items[2:]...) })},
		{"none of many", usual(), api.Request{Kind: api.Delete, Key: "bb"}, told(api.Missing), usual()},
	})
}

// P3.6
func TestCount(t *testing.T) {
	counted := func(value string) api.Store { return put(api.Item{Flags: 7, Until: 150, Value: value}) }
	request := func(kind, n int) api.Request { return api.Request{Kind: kind, Key: "k", N: n} }
	incr := func(n int) api.Request { return request(api.Incr, n) }
	decr := func(n int) api.Request { return request(api.Decr, n) }
	number := func(n int) api.Reply { return api.Reply{Kind: api.Number, N: n} }
	const most = "1099511627776"
	wantSteps(t, []step{
		{"up", one(kept("12")), incr(5), number(17), counted("17")},
		{"down", one(kept("12")), decr(5), number(7), counted("7")},
		{"by 0", one(kept("12")), incr(0), number(12), counted("12")},
		{"down by 0", one(kept("12")), decr(0), number(12), counted("12")},
		{"from 0", one(kept("0")), incr(1), number(1), counted("1")},
		{"more digits", one(kept("99")), incr(1), number(100), counted("100")},
		{"to 0", one(kept("12")), decr(12), number(0), counted("0")},
		{"not below 0", one(kept("12")), decr(13), number(0), counted("0")},
		{"far below 0", one(kept("12")), decr(api.MaxNumber), number(0), counted("0")},
		{"to the most", one(kept("1099511627775")), incr(1), number(api.MaxNumber), counted(most)},
		{"not above the most", one(kept(most)), incr(1), number(api.MaxNumber), counted(most)},
		{"far above the most", one(kept(most)), incr(api.MaxNumber), number(api.MaxNumber), counted(most)},
		{"down from the most", one(kept(most)), decr(1), number(api.MaxNumber - 1), counted("1099511627775")},
		{"none", none(), incr(1), told(api.Missing), none()},
		{"none down", none(), decr(1), told(api.Missing), none()},
		{"its time is over", one(over(kept("12"))), incr(1), told(api.Missing), none()},
		{"its time is over, and no number", one(over(kept("x"))), decr(1), told(api.Missing), none()},
		{"a far one", one(away()), incr(1), told(api.NoCount), one(away())},
	})
	for _, v := range []string{"", "x", "-1", "+1", "01", "00", " 1", "1 ", "1\n", "1x", "1.5", "1099511627777", "18446744073709551617", value(200)} {
		wantSteps(t, []step{
			{"up: " + v, one(kept(v)), incr(1), told(api.NoCount), one(kept(v))},
			{"down: " + v, one(kept(v)), decr(1), told(api.NoCount), one(kept(v))},
		})
	}
}

// P3.6
func TestTouch(t *testing.T) {
	touch := func(exp int) api.Request { return api.Request{Kind: api.Touch, Key: "k", Exp: exp} }
	till := func(it api.Item, until int) api.Item {
		it.Until = until
		return it
	}
	wantSteps(t, []step{
		{"one", one(kept("old")), touch(3), told(api.Touched), asked(till(kept("old"), 103))},
		{"a far one", one(away()), touch(3), told(api.Touched), asked(till(away(), 103))},
		{"for ever", one(kept("old")), touch(0), told(api.Touched), asked(till(kept("old"), 0))},
		{"as long as may be", one(kept("old")), touch(api.MaxNumber), told(api.Touched), asked(till(kept("old"), api.MaxNumber))},
		{"none", none(), touch(3), told(api.Missing), none()},
		{"its time is over", one(over(kept("old"))), touch(3), told(api.Missing), none()},
	})
}

// P3.6: what is held stays, and so do all numbers.
func TestFlushAndBad(t *testing.T) {
	flushed := changed(func(s *api.Store) { s.Items, s.Flash.Pages = nil, nil })
	wantSteps(t, []step{
		{"flush", usual(), api.Request{Kind: api.Flush}, told(api.Done), flushed},
		{"flush quietly", usual(), api.Request{Kind: api.Flush, Quiet: true}, told(api.Done), flushed},
		{"flush nothing", flushed, api.Request{Kind: api.Flush}, told(api.Done), flushed},
		{"bad", usual(), api.Request{Kind: api.Bad}, told(api.Failed), usual()},
		{"flash goes on behind its last page",
			changed(func(s *api.Store) { s.Most, s.Items, s.Flash.Pages = 3, []api.Item{near("p", value(200), 9)}, nil }),
			api.Request{Kind: api.Set, Key: "k", Value: value(180)}, told(api.Stored),
			changed(func(s *api.Store) {
				s.Most, s.Cas, s.Uses = 3, 51, 51
				s.Items = []api.Item{near("k", value(180), 51), far("p", 9, 0, 9)}
				s.Flash = flashOf(2, 10, page(9, value(200)))
			})},
	})
}
