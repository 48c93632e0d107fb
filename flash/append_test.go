package flash_test

import (
	"strings"
	"testing"

	"dovecote/api"
	"dovecote/flash"
)

// P2.2, P2.4
func TestAppend(t *testing.T) {
	for _, c := range []struct {
		what string
		in   api.Flash
		s    string
		want api.Flash
		at   api.Place
		gone int
	}{
		{"the first page", with(1, 1), "a", with(1, 2, page(1, "a")), api.Place{Page: 1}, 0},
		{"a value without bytes", with(1, 1), "", with(1, 2, page(1, "")), api.Place{Page: 1}, 0},
		{"after pages went", with(3, 9), "a", with(3, 10, page(9, "a")), api.Place{Page: 9}, 0},
		{"behind others", with(1, 2, page(1, "a", "")), "abc", with(1, 2, page(1, "a", "", "abc")), api.Place{Page: 1, At: 7}, 0},
		{"on the last page", with(3, 3, page(1, "a"), page(2, "b")), "c", with(3, 3, page(1, "a"), page(2, "b", "c")), api.Place{Page: 2, At: 4}, 0},
		{"a page is full then", with(1, 2, page(1, value(200))), value(50), with(1, 2, fullPage(1)), api.Place{Page: 1, At: 203}, 0},
		{"a byte too many", with(2, 2, page(1, value(200))), value(51), with(2, 3, page(1, value(200)), page(2, value(51))), api.Place{Page: 2}, 0},
		{"behind a full page", with(2, 2, fullPage(1)), "", with(2, 3, fullPage(1), page(2, "")), api.Place{Page: 2}, 0},
		{"the only page goes", with(1, 2, page(1, value(200))), value(51), with(1, 3, page(2, value(51))), api.Place{Page: 2}, 1},
		{"the first of two goes", with(2, 9, page(7, "a"), fullPage(8)), "b", with(2, 10, fullPage(8), page(9, "b")), api.Place{Page: 9}, 7},
		{"room on a page ahead is not taken", with(3, 3, page(1, "a"), fullPage(2)), "b", with(3, 4, page(1, "a"), fullPage(2), page(3, "b")), api.Place{Page: 3}, 0},
		{"the longest value", with(1, 2, page(1, "a")), value(200), with(1, 2, page(1, "a", value(200))), api.Place{Page: 1, At: 4}, 0},
		{"the last number", with(1, api.MaxNumber-1), "a", with(1, api.MaxNumber, page(api.MaxNumber-1, "a")), api.Place{Page: api.MaxNumber - 1}, 0},
	} {
		in, asItWas := roomy(c.in)
		got, at, gone, e := flash.Append(in, c.s)
		if e != api.OK || !same(got, c.want) || at != c.at || gone != c.gone {
			t.Errorf("%s: %v, %v, %d, %v, want %v, %v, %d", c.what, got, at, gone, e, c.want, c.at, c.gone)
		}
		scribble(got)
		if !asItWas() {
			t.Errorf("%s: what was handed in is not as it was", c.what)
		}
	}
}

// P2.4
func TestAppendRefuses(t *testing.T) {
	last := with(1, api.MaxNumber, page(api.MaxNumber-1, "a"))
	for _, c := range []struct {
		in   api.Flash
		s    string
		want api.Errno
	}{
		{with(1, 1), value(201), api.ErrSize},
		{with(1, 1), strings.Repeat("v", 256), api.ErrSize},
		{with(1, 2, page(1, "a")), strings.Repeat("v", 1<<16), api.ErrSize},
		{with(0, 1), value(201), api.ErrSize},
		{last, value(201), api.ErrSize},
		{with(0, 1), "a", api.ErrRoom},
		{with(0, 1), "", api.ErrRoom},
		{with(0, 7), value(200), api.ErrRoom},
		{with(1, api.MaxNumber), "a", api.ErrRoom},
		{last, "a", api.ErrRoom}, // though its page would take it
		{last, value(200), api.ErrRoom},
	} {
		g, p, n, e := flash.Append(c.in, c.s)
		if e != c.want || !same(g, api.Flash{}) || p != (api.Place{}) || n != 0 {
			t.Errorf("Append(%v, %d bytes): %v, %v, %d, %v, want %v", c.in, len(c.s), g, p, n, e, c.want)
		}
	}
}

// P2.4: no list of an answer is one of the answer ahead of it, nor its spare room.
func TestAppendTwiceToTheSameFlash(t *testing.T) {
	f, _, _, _ := flash.Append(with(2, 1), "a")
	g, _, _, _ := flash.Append(f, "b")
	h, _, _, _ := flash.Append(f, "c")
	if !same(f, with(2, 2, page(1, "a"))) || !same(g, with(2, 2, page(1, "a", "b"))) || !same(h, with(2, 2, page(1, "a", "c"))) {
		t.Errorf("%v, %v, %v", f, g, h)
	}
}
