package flash_test

import (
	"math"
	"strings"
	"testing"

	"dovecote/api"
	"dovecote/flash"
)

// P2.5
func TestRead(t *testing.T) {
	f := with(3, 10, page(7, "abc", "", "a"), page(8, "d\ne\x00\xff"), page(9, value(200), value(50)))
	for _, c := range []struct {
		at   api.Place
		want string
		e    api.Errno
	}{
		{api.Place{Page: 7, At: 0}, "abc", api.OK},
		{api.Place{Page: 7, At: 6}, "", api.OK},
		{api.Place{Page: 7, At: 9}, "a", api.OK},
		{api.Place{Page: 8, At: 0}, "d\ne\x00\xff", api.OK},
		{api.Place{Page: 9, At: 0}, value(200), api.OK},
		{api.Place{Page: 9, At: 203}, value(50), api.OK},

		{api.Place{Page: 6}, "", api.ErrNone},
		{api.Place{Page: 10}, "", api.ErrNone},
		{api.Place{Page: 0}, "", api.ErrNone},
		{api.Place{Page: -7}, "", api.ErrNone},
		{api.Place{Page: math.MinInt, At: -1}, "", api.ErrNone},
		{api.Place{Page: math.MaxInt, At: 999}, "", api.ErrNone},

		{api.Place{Page: 7, At: 1}, "", api.ErrRange},
		{api.Place{Page: 7, At: 3}, "", api.ErrRange},
		{api.Place{Page: 7, At: 13}, "", api.ErrRange},
		{api.Place{Page: 8, At: 6}, "", api.ErrRange},
		{api.Place{Page: 9, At: 256}, "", api.ErrRange},
		{api.Place{Page: 9, At: -1}, "", api.ErrRange},
		{api.Place{Page: 9, At: math.MinInt}, "", api.ErrRange},
		{api.Place{Page: 9, At: math.MaxInt}, "", api.ErrRange},
	} {
		in, asItWas := roomy(f)
		if got, e := flash.Read(in, c.at); got != c.want || e != c.e {
			t.Errorf("Read(%v): %q, %v, want %q, %v", c.at, got, e, c.want, c.e)
		}
		if !asItWas() {
			t.Errorf("Read(%v): what was handed in is not as it was", c.at)
		}
	}
}

// P2.5: bytes within a value that look like a record are none.
func TestReadWithinAValue(t *testing.T) {
	f := with(1, 2, page(1, string(rec("a")), "b"))
	if s, e := flash.Read(f, api.Place{Page: 1, At: 3}); s != "" || e != api.ErrRange {
		t.Errorf("Read within a value: %q, %v", s, e)
	}
}

func TestReadWithoutPages(t *testing.T) {
	for _, f := range []api.Flash{with(0, 1), with(3, 1), with(3, 5)} {
		for _, p := range []api.Place{{}, {Page: 1}, {Page: 4}, {Page: 5}} {
			if s, e := flash.Read(f, p); s != "" || e != api.ErrNone {
				t.Errorf("Read(%v, %v): %q, %v", f, p, s, e)
			}
		}
	}
}

// kept: what should be found on flash.
type kept struct {
	at    api.Place
	value string
}

// P2.4, P2.5: all that was appended is read again, up to when its page goes, and nothing else is.
func TestReadWhatWasAppended(t *testing.T) {
	for most := 1; most <= 4; most++ {
		f, _ := flash.New(most)
		var l []kept
		for i := range 120 {
			s := strings.Repeat(string(rune('a'+i%26)), i*i*7%201)
			g, at, gone, e := flash.Append(f, s)
			if e != api.OK || flash.Check(g) != api.OK || len(g.Pages) > most {
				t.Fatalf("Append %d: %v, %v", i, g, e)
			}
			if (gone != 0) != (len(f.Pages) == most && g.Next > f.Next) || gone != 0 && gone != f.Pages[0].Number {
				t.Fatalf("Append %d: page %d went from %v", i, gone, f)
			}
			f = g
			l = append(l, kept{at, s})
			wantKept(t, f, l)
		}
	}
}

// wantKept: each value of a page that is there still, at its place.
func wantKept(t *testing.T, f api.Flash, l []kept) {
	t.Helper()
	records := 0
	for _, k := range l {
		s, e := flash.Read(f, k.at)
		switch {
		case k.at.Page < f.Next-len(f.Pages):
			if e != api.ErrNone {
				t.Fatalf("Read(%v): %v, its page has gone", k.at, e)
			}
		case e != api.OK || s != k.value:
			t.Fatalf("Read(%v): %q, %v, want %q", k.at, s, e, k.value)
		default:
			records++
		}
	}
	found := 0
	for _, p := range f.Pages {
		for at := range len(p.Bytes) {
			if _, e := flash.Read(f, api.Place{Page: p.Number, At: at}); e == api.OK {
				found++
			}
		}
	}
	if found != records {
		t.Fatalf("%d records are on flash, want %d", found, records)
	}
}

// FuzzRead: whatever stands on a page, no call panics, and what may be goes on being so.
func FuzzRead(f *testing.F) {
	f.Add(1, 2, 1, rec("a"), 0, "b")
	f.Add(2, 9, 8, fullPage(1).Bytes, 203, value(200))
	f.Fuzz(func(t *testing.T, most, next, number int, b []byte, at int, s string) {
		in := with(most, next, api.Page{Number: number, Bytes: b})
		v, e := flash.Read(in, api.Place{Page: number, At: at})
		if e != api.OK && v != "" || (e == api.ErrState) != (flash.Check(in) != api.OK) {
			t.Fatalf("Read(%v, %d): %q, %v", in, at, v, e)
		}
		g, p, _, e := flash.Append(in, s)
		if e != api.OK {
			return
		}
		if v, e := flash.Read(g, p); e != api.OK || v != s {
			t.Fatalf("Append(%v, %q): %v, %v, where %q is", in, s, g, p, v)
		}
	})
}
