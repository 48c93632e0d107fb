package store_test

import (
	"fmt"
	"math/rand"
	"strconv"
	"testing"

	"dovecote/api"
	"dovecote/flash"
	"dovecote/store"
)

// entry: what a plain table would have for a key.
type entry struct {
	value             string
	flags, until, cas int
}

// table: what a store should have if its memory had no end; how a store may answer is told by it.
type table struct {
	clock, cas int
	entries    map[string]entry
}

// reply to a request, where there is room for all.
func (m *table) reply(r api.Request) api.Reply {
	if r.Kind == api.Flush {
		clear(m.entries)
		return told(api.Done)
	}
	if r.Kind == api.Get {
		x := told(api.Values)
		for _, k := range r.Keys {
			if it, ok := m.entries[k]; ok {
				x.Hits = append(x.Hits, api.Hit{Key: k, Flags: it.flags, Cas: it.cas, Value: it.value})
			}
		}
		return x
	}
	it, there := m.entries[r.Key]
	if !there {
		switch r.Kind {
		case api.Set, api.Add:
			return m.put(r.Key, entry{r.Value, r.Flags, m.until(r.Exp), 0}, told(api.Stored))
		case api.Replace, api.Append, api.Prepend:
			return told(api.Not)
		}
		return told(api.Missing)
	}
	return m.change(r, it)
}

// change of an entry that is there.
func (m *table) change(r api.Request, it entry) api.Reply {
	switch r.Kind {
	case api.Add:
		return told(api.Not)
	case api.Append:
		return m.join(r.Key, it, it.value+r.Value)
	case api.Prepend:
		return m.join(r.Key, it, r.Value+it.value)
	case api.Cas:
		if it.cas != r.N {
			return told(api.Exists)
		}
	case api.Delete:
		delete(m.entries, r.Key)
		return told(api.Gone)
	case api.Incr:
		return m.count(r.Key, it, r.N)
	case api.Decr:
		return m.count(r.Key, it, -r.N)
	case api.Touch:
		it.until = m.until(r.Exp)
		m.entries[r.Key] = it
		return told(api.Touched)
	}
	return m.put(r.Key, entry{r.Value, r.Flags, m.until(r.Exp), 0}, told(api.Stored))
}

func (m *table) put(key string, it entry, x api.Reply) api.Reply {
	m.cas++
	it.cas = m.cas
	m.entries[key] = it
	return x
}

func (m *table) join(key string, it entry, value string) api.Reply {
	if len(value) > api.MaxValue {
		return told(api.NoRoom)
	}
	it.value = value
	return m.put(key, it, told(api.Stored))
}

func (m *table) count(key string, it entry, by int) api.Reply {
	n, err := strconv.Atoi(it.value)
	if err != nil || strconv.Itoa(n) != it.value || n < 0 || n > api.MaxNumber {
		return told(api.NoCount)
	}
	n = min(max(n+by, 0), api.MaxNumber)
	it.value = strconv.Itoa(n)
	return m.put(key, it, api.Reply{Kind: api.Number, N: n})
}

func (m *table) until(exp int) int {
	if exp == 0 {
		return 0
	}
	return m.clock + exp
}

// forget what a store has not any more.
func (m *table) forget(s api.Store) {
	left := map[string]entry{}
	for _, it := range s.Items {
		if e, ok := m.entries[it.Key]; ok && (e.until == 0 || e.until > m.clock) {
			left[it.Key] = e
		}
	}
	m.entries = left
}

// drawn request for one of so many keys.
func drawn(d *rand.Rand, keys int) api.Request {
	key := func() string { return fmt.Sprintf("key%d", d.Intn(keys)) }
	r := api.Request{Kind: api.Get + d.Intn(api.Touch), Key: key()}
	switch {
	case d.Intn(200) == 0:
		return api.Request{Kind: api.Flush}
	case r.Kind == api.Get:
		return api.Request{Kind: api.Get, Keys: []string{key(), key(), key()}}
	case r.Kind <= api.Cas:
		r.Flags, r.Exp, r.Value = d.Intn(9), d.Intn(2)*d.Intn(30), strconv.Itoa(d.Intn(50))
		if d.Intn(3) > 0 {
			r.Value = value(d.Intn(201))
		}
	case r.Kind == api.Touch:
		r.Exp = d.Intn(30)
	}
	if r.Kind == api.Cas || r.Kind == api.Incr || r.Kind == api.Decr {
		r.N = d.Intn(60)
	}
	return r
}

// wantItems: each item is that of the table.
func wantItems(t *testing.T, s api.Store, m *table) {
	t.Helper()
	for _, it := range s.Items {
		if it.Until != 0 && it.Until <= s.Clock {
			continue
		}
		v := it.Value
		if it.Far {
			v, _ = flash.Read(s.Flash, it.Where)
		}
		if got := (entry{v, it.Flags, it.Until, it.Cas}); got != m.entries[it.Key] {
			t.Fatalf("%s: %v, want %v", it.Key, got, m.entries[it.Key])
		}
	}
}

// P3.4 to P3.7: whatever had to make room, no answer is wrong, nothing is changed that was handed in, and what may be goes on being so.
func TestDrawnRequests(t *testing.T) {
	d := rand.New(rand.NewSource(3))
	noRoom, pushed, far := 0, 0, 0
	for run := range 120 {
		u := api.Setup{Pages: run % 8, Flash: run % 5}
		ample := run%10 == 9
		if ample {
			u.Pages = api.MaxPages
		}
		s, _ := store.New(u)
		m := &table{entries: map[string]entry{}}
		for range 100 {
			if d.Intn(5) == 0 {
				n := d.Intn(9)
				s, _ = store.Tick(s, n)
				m.clock += n
			}
			m.forget(s)
			r, cas := drawn(d, 12), m.cas
			want := m.reply(r)
			in, asItWas := roomy(s)
			next, x, e := store.Do(in, r)
			if x.Kind == api.NoRoom && want.Kind != api.NoRoom && !ample { // the table has more room
				delete(m.entries, r.Key)
				m.cas, want = cas, x
				noRoom++
			}
			if e != api.OK || !sameReply(x, want) || next.Cas != m.cas || next.Clock != m.clock {
				t.Fatalf("Do(%v, %v): %v, %v, %v, want %v, %v", s, r, next, x, e, want, m)
			}
			if e := store.Check(next); e != api.OK || !asItWas() {
				t.Fatalf("Do(%v, %v): %v, Check: %v", s, r, next, e)
			}
			wantItems(t, next, m)
			if missing := len(m.entries) - len(next.Items); missing > 0 {
				if ample {
					t.Fatalf("Do(%v, %v): %v, items were forgotten", s, r, next)
				}
				pushed++
			}
			for _, it := range next.Items {
				if it.Far {
					far++
				}
			}
			s = next
		}
	}
	if noRoom == 0 || pushed == 0 || far == 0 {
		t.Errorf("without room: %d, forgotten: %d, far: %d: these requests try too little", noRoom, pushed, far)
	}
}

// FuzzDo: whatever a store and a request are, no call panics, and what may be goes on being so.
func FuzzDo(f *testing.F) {
	f.Add(1, 1, 1, 0, 0, 1, "k", "v", 1, 0, rec(value(30)), api.Set, "k", "new", 0, 0)
	f.Add(5, 20, 20, 1, 1, 9, "k", "", 1, 0, rec(value(30)), api.Append, "k", value(170), 0, 0)
	f.Add(5, 20, 20, 1, 1, 9, "k", value(200), 0, 0, rec(value(250)), api.Incr, "a", "", 7, 9)
	f.Fuzz(func(t *testing.T, clock, cas, uses, most, held, until int, key, val string, where, at int, b []byte, kind int, asks, brings string, n, exp int) {
		it := api.Item{Key: key, Value: val, Until: until, Cas: 1, Used: 1, Far: where != 0, Where: api.Place{Page: where, At: at}}
		s := with(most, [4]int{held, held, held, held}, 0, flashOf(1, 2, api.Page{Number: 1, Bytes: b}), it)
		s.Clock, s.Cas, s.Uses = clock, cas, uses
		r := api.Request{Kind: kind, Key: asks, N: n, Exp: exp, Value: brings}
		in, asItWas := roomy(s)
		u, x, e := store.Do(in, r)
		if !asItWas() || e != api.OK && (!same(u, api.Store{}) || !sameReply(x, api.Reply{})) {
			t.Fatalf("Do(%v, %v): %v, %v, %v", s, r, u, x, e)
		}
		if e == api.OK && (store.Check(s) != api.OK || store.Check(u) != api.OK) {
			t.Fatalf("Do(%v, %v): %v may not be", s, r, u)
		}
		if u, e := store.Tick(s, n); e == api.OK && store.Check(u) != api.OK {
			t.Fatalf("Tick(%v, %d): %v may not be", s, n, u)
		}
	})
}
