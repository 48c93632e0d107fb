package flash_test

import (
	"math"
	"reflect"
	"strconv"
	"strings"
	"testing"

	"dovecote/api"
	"dovecote/flash"
)

// rec: the record of a value, worked out apart from the program.
func rec(s string) []byte {
	sum := uint64(7)
	for i := 0; i < len(s); i++ {
		sum = (sum*31 + uint64(s[i])) % 65521
	}
	return append([]byte{byte(len(s)), byte(sum / 256), byte(sum % 256)}, []byte(s)...)
}

// page with such a number and the records of values.
func page(number int, values ...string) api.Page {
	p := api.Page{Number: number}
	for _, s := range values {
		p.Bytes = append(p.Bytes, rec(s)...)
	}
	return p
}

// value of so many bytes.
func value(n int) string { return strings.Repeat("v", n) }

// same: are they, whether lists without elements are nil or not?
func same(f, g api.Flash) bool {
	if f.Most != g.Most || f.Next != g.Next || len(f.Pages) != len(g.Pages) {
		return false
	}
	for i, p := range f.Pages {
		if p.Number != g.Pages[i].Number || string(p.Bytes) != string(g.Pages[i].Bytes) {
			return false
		}
	}
	return true
}

// roomy: the same flash, with spare room behind each list, which is filled; and a function that tells whether all of it is as it was.
func roomy(f api.Flash) (api.Flash, func() bool) {
	pages := make([]api.Page, len(f.Pages), len(f.Pages)+3)
	for i, p := range f.Pages {
		b := make([]byte, len(p.Bytes), len(p.Bytes)+300)
		copy(b, p.Bytes)
		pages[i] = api.Page{Number: p.Number, Bytes: b}
	}
	all := pages[:cap(pages)]
	for i := len(pages); i < len(all); i++ {
		all[i] = page(-i, "spare")
	}
	for _, p := range pages {
		spare := p.Bytes[len(p.Bytes):cap(p.Bytes)]
		for i := range spare {
			spare[i] = 99
		}
	}
	f.Pages = pages
	was := picture(f)
	return f, func() bool { return reflect.DeepEqual(was, picture(f)) }
}

// picture of flash, spare room too, as texts.
func picture(f api.Flash) []string {
	var l []string
	for _, p := range f.Pages[:cap(f.Pages)] {
		l = append(l, strconv.Itoa(p.Number)+" "+string(p.Bytes[:cap(p.Bytes)]))
	}
	return l
}

// scribble over each list of flash, spare room too.
func scribble(f api.Flash) {
	pages := f.Pages[:cap(f.Pages)]
	for i, p := range pages {
		b := p.Bytes[:cap(p.Bytes)]
		for j := range b {
			b[j] = 77
		}
		pages[i].Number = 77
	}
}

// P2.1
func TestNew(t *testing.T) {
	for _, most := range []int{0, 1, 2, api.MaxFlash} {
		f, e := flash.New(most)
		if e != api.OK || !same(f, api.Flash{Most: most, Next: 1}) {
			t.Errorf("New(%d): %+v, %v", most, f, e)
		}
		if e := flash.Check(f); e != api.OK {
			t.Errorf("Check(New(%d)): %v", most, e)
		}
	}
}

// P2.1
func TestNewRefuses(t *testing.T) {
	for _, most := range []int{-1, api.MaxFlash + 1, math.MinInt, math.MaxInt} {
		if f, e := flash.New(most); e != api.ErrRange || !same(f, api.Flash{}) {
			t.Errorf("New(%d): %+v, %v", most, f, e)
		}
	}
}

// P2.3
func TestCopy(t *testing.T) {
	shared := []byte{1, 2, 3}
	for _, f := range []api.Flash{
		{},
		{Most: 3, Next: 9},
		{Most: 3, Next: 3, Pages: []api.Page{page(1, "a", "b"), page(2, "")}},
		{Most: -1, Next: math.MinInt, Pages: []api.Page{{Number: -5, Bytes: shared}, {}, {Number: 9, Bytes: shared}}},
	} {
		in, asItWas := roomy(f)
		got := flash.Copy(in)
		if !same(got, f) {
			t.Errorf("Copy(%v): %v", f, got)
		}
		scribble(got)
		if !asItWas() {
			t.Errorf("Copy(%v) shares memory with it", f)
		}
	}
}

// P2.3: nor do two lists of a copy share memory, where those of the flash do.
func TestCopyPartsWhatIsShared(t *testing.T) {
	b := rec("a")
	got := flash.Copy(api.Flash{Most: 2, Next: 3, Pages: []api.Page{{Number: 1, Bytes: b}, {Number: 2, Bytes: b}}})
	scribble(api.Flash{Pages: got.Pages[:1:1]})
	if string(got.Pages[1].Bytes) != string(b) {
		t.Errorf("two pages share memory: %v", got)
	}
}
