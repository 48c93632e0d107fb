package flash_test

import (
	"math"
	"testing"

	"dovecote/api"
	"dovecote/flash"
)

// with: flash of so many pages at most, with such a next number and pages.
func with(most, next int, pages ...api.Page) api.Flash {
	return api.Flash{Most: most, Next: next, Pages: pages}
}

// many pages, with numbers from first on.
func many(first, n int) []api.Page {
	var l []api.Page
	for i := range n {
		l = append(l, page(first+i, "a"))
	}
	return l
}

// raw: flash with one page of such bytes.
func raw(b ...byte) api.Flash { return with(1, 2, api.Page{Number: 1, Bytes: b}) }

// fullPage: one of PageBytes bytes.
func fullPage(number int) api.Page { return page(number, value(200), value(50)) }

func mayBe() []api.Flash {
	return []api.Flash{
		with(0, 1),
		with(0, 2),
		with(0, api.MaxNumber),
		with(api.MaxFlash, 1),
		with(1, 2, page(1, "a")),
		with(1, api.MaxNumber, page(api.MaxNumber-1, "a")),
		with(2, 2, page(1, "")),
		with(2, 3, page(1, ""), page(2, "a", "b")),
		with(2, 9, page(7, ""), page(8, "a", "b")),
		with(1, 2, fullPage(1)),
		with(1, 2, page(1, value(api.MaxValue))),
		with(api.MaxFlash, api.MaxFlash+1, many(1, api.MaxFlash)...),
		with(api.MaxFlash, 1000, many(1000-api.MaxFlash, api.MaxFlash)...),
	}
}

func mayNotBe() []api.Flash {
	return []api.Flash{
		{},
		with(-1, 1),
		with(math.MinInt, 1),
		with(api.MaxFlash+1, 1),
		with(math.MaxInt, 1),
		with(1, 0),
		with(1, -1),
		with(1, math.MinInt),
		with(1, api.MaxNumber+1),
		with(1, math.MaxInt),
		with(0, 2, page(1, "a")),
		with(1, 3, page(1, "a"), page(2, "a")),
		with(api.MaxFlash, api.MaxFlash+2, many(1, api.MaxFlash+1)...),
		with(api.MaxFlash+1, api.MaxFlash+2, many(1, api.MaxFlash+1)...),
		with(2, 1, page(0, "a")),
		with(2, 2, page(0, "a"), page(1, "a")),
		with(2, 1, page(-1, "a"), page(0, "a")),
		with(2, 2, page(2, "a")),
		with(2, 3, page(1, "a")),
		with(2, 4, page(1, "a"), page(2, "a")),
		with(2, 4, page(1, "a"), page(3, "a")),
		with(2, 4, page(3, "a"), page(2, "a")),
		with(2, 4, page(3, "a"), page(3, "a")),
		with(3, 4, page(1, "a"), page(1, "a"), page(3, "a")),
		with(1, 2, page(1)),
		with(2, 3, page(1, "a"), page(2)),
		with(2, 3, page(1), page(2, "a")),
		with(1, 2, page(1, value(200), value(51))),
		with(1, 2, page(1, value(201))),
		raw(0),
		raw(0, 0),
		raw(0, 0, 6),
		raw(0, 7, 0),
		raw(1, 1, 58),
		raw(1, 1, 58, 'b'),
		raw(1, 1, 58, 'a', 0),
		raw(1, 1, 58, 'a', 1, 1, 58),
		with(2, 3, page(1, "a"), api.Page{Number: 2, Bytes: []byte{0, 0, 8}}),
	}
}

// P2.3
func TestCheck(t *testing.T) {
	for _, f := range mayBe() {
		if e := flash.Check(f); e != api.OK {
			t.Errorf("Check(%v): %v", f, e)
		}
	}
	for _, f := range mayNotBe() {
		if e := flash.Check(f); e != api.ErrState {
			t.Errorf("Check(%v): %v, want %v", f, e, api.ErrState)
		}
	}
}

// P2.3: ahead of all else, so also where the value is too long, there is no room, and no such page.
func TestRefuseWhatCheckRefuses(t *testing.T) {
	for _, f := range mayNotBe() {
		for _, s := range []string{"a", value(201)} {
			if g, p, n, e := flash.Append(f, s); e != api.ErrState || !same(g, api.Flash{}) || p != (api.Place{}) || n != 0 {
				t.Errorf("Append(%v, %d bytes): %v, %v, %d, %v", f, len(s), g, p, n, e)
			}
		}
		for _, p := range []api.Place{{}, {Page: 1}, {Page: 1, At: -1}, {Page: math.MaxInt}} {
			if s, e := flash.Read(f, p); e != api.ErrState || s != "" {
				t.Errorf("Read(%v, %v): %q, %v", f, p, s, e)
			}
		}
	}
}
