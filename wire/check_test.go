package wire_test

import (
	"math"
	"strings"
	"testing"

	"dovecote/api"
	"dovecote/wire"
)

var (
	longKey   = strings.Repeat("k", api.MaxKey)
	tooLong   = strings.Repeat("k", api.MaxKey+1)
	longValue = strings.Repeat("v", api.MaxValue)
	hugeValue = strings.Repeat("v", api.MaxValue+1)
)

// plain: the least request of a kind that may be.
func plain(kind int) api.Request {
	r := api.Request{Kind: kind}
	switch {
	case kind == api.Get:
		r.Keys = []string{"a"}
	case kind >= api.Set && kind <= api.Touch:
		r.Key = "a"
	}
	return r
}

// keys: so many.
func keys(n int) []string {
	var l []string
	for range n {
		l = append(l, "k")
	}
	return l
}

func wantCheck(t *testing.T, r api.Request, want api.Errno) {
	t.Helper()
	if got := wire.Check(r); got != want {
		t.Errorf("Check(%+v): %v, want %v", r, got, want)
	}
}

// errno: OK if it may be, else ErrForm.
func errno(mayBe bool) api.Errno {
	if mayBe {
		return api.OK
	}
	return api.ErrForm
}

// P1.2
func TestCheckKinds(t *testing.T) {
	for kind := api.Get; kind <= api.Bad; kind++ {
		wantCheck(t, plain(kind), api.OK)
	}
	for _, kind := range []int{0, -1, api.Bad + 1, math.MinInt, math.MaxInt} {
		wantCheck(t, api.Request{Kind: kind}, api.ErrKind)
	}
}

func TestCheckKeysOfGet(t *testing.T) {
	for n := range 2 * api.MaxKeys {
		wantCheck(t, api.Request{Kind: api.Get, Keys: keys(n)}, errno(n >= 1 && n <= api.MaxKeys))
	}
	wantCheck(t, api.Request{Kind: api.Get, Keys: []string{}}, api.ErrForm)
	wantCheck(t, api.Request{Kind: api.Get, Keys: []string{"a", longKey, "a"}}, api.OK)
	for _, k := range []string{"", "a b", tooLong, "\x7f"} {
		wantCheck(t, api.Request{Kind: api.Get, Keys: []string{k}}, api.ErrForm)
		wantCheck(t, api.Request{Kind: api.Get, Keys: []string{k, "a"}}, api.ErrForm)
		wantCheck(t, api.Request{Kind: api.Get, Keys: []string{"a", "b", k}}, api.ErrForm)
	}
}

func TestCheckKeysOfOthers(t *testing.T) {
	for kind := api.Set; kind <= api.Bad; kind++ {
		r := plain(kind)
		r.Keys = []string{}
		wantCheck(t, r, api.OK)
		r.Keys = []string{"a"}
		wantCheck(t, r, api.ErrForm)
		r.Keys = []string{""}
		wantCheck(t, r, api.ErrForm)
	}
}

func TestCheckKey(t *testing.T) {
	for kind := api.Get; kind <= api.Bad; kind++ {
		has := kind >= api.Set && kind <= api.Touch
		r := plain(kind)
		for _, k := range []string{"b", longKey} {
			r.Key = k
			wantCheck(t, r, errno(has))
		}
		for _, k := range []string{"a b", tooLong, "\n"} {
			r.Key = k
			wantCheck(t, r, api.ErrForm)
		}
		r.Key = ""
		wantCheck(t, r, errno(!has))
	}
}

func TestCheckFieldsByKind(t *testing.T) {
	for kind := api.Get; kind <= api.Bad; kind++ {
		brings := kind >= api.Set && kind <= api.Cas
		for _, c := range []struct {
			change func(r *api.Request)
			mayBe  bool
		}{
			{func(r *api.Request) { r.Flags = 1 }, brings},
			{func(r *api.Request) { r.Value = "v" }, brings},
			{func(r *api.Request) { r.Exp = 1 }, brings || kind == api.Touch},
			{func(r *api.Request) { r.N = 1 }, kind == api.Cas || kind == api.Incr || kind == api.Decr},
			{func(r *api.Request) { r.Quiet = true }, kind != api.Get && kind != api.Bad},
		} {
			r := plain(kind)
			c.change(&r)
			wantCheck(t, r, errno(c.mayBe))
		}
	}
}

func TestCheckRanges(t *testing.T) {
	for kind := api.Set; kind <= api.Cas; kind++ {
		for _, n := range []int{math.MinInt, -1, api.MaxFlags + 1, math.MaxInt} {
			wantCheck(t, api.Request{Kind: kind, Key: "a", Flags: n}, api.ErrRange)
		}
		wantCheck(t, api.Request{Kind: kind, Key: "a", Flags: api.MaxFlags}, api.OK)
	}
	for _, n := range []int{math.MinInt, -1, api.MaxNumber + 1, math.MaxInt} {
		for kind := api.Set; kind <= api.Cas; kind++ {
			wantCheck(t, api.Request{Kind: kind, Key: "a", Exp: n}, api.ErrRange)
		}
		wantCheck(t, api.Request{Kind: api.Touch, Key: "a", Exp: n}, api.ErrRange)
		for _, kind := range []int{api.Cas, api.Incr, api.Decr} {
			wantCheck(t, api.Request{Kind: kind, Key: "a", N: n}, api.ErrRange)
		}
	}
	wantCheck(t, api.Request{Kind: api.Cas, Key: "a", Exp: api.MaxNumber, N: api.MaxNumber}, api.OK)
	wantCheck(t, api.Request{Kind: api.Touch, Key: "a", Exp: api.MaxNumber}, api.OK)
	wantCheck(t, api.Request{Kind: api.Incr, Key: "a", N: api.MaxNumber}, api.OK)
}

func TestCheckSize(t *testing.T) {
	for kind := api.Set; kind <= api.Cas; kind++ {
		wantCheck(t, api.Request{Kind: kind, Key: "a", Value: longValue}, api.OK)
		wantCheck(t, api.Request{Kind: kind, Key: "a", Value: hugeValue}, api.ErrSize)
		wantCheck(t, api.Request{Kind: kind, Key: "a", Value: "\n \x00\xff"}, api.OK)
	}
}

func TestCheckTellsTheErrorNamedFirst(t *testing.T) {
	all := api.Request{Kind: 99, Key: "a", Keys: keys(20), Flags: -1, Exp: -1, N: -1, Value: hugeValue, Quiet: true}
	wantCheck(t, all, api.ErrKind)
	all.Kind = api.Cas
	wantCheck(t, all, api.ErrForm)
	all.Keys = nil
	wantCheck(t, all, api.ErrRange)
	all.Flags, all.Exp, all.N = 0, 0, 0
	wantCheck(t, all, api.ErrSize)
	wantCheck(t, api.Request{Kind: api.Delete, Key: "a", Flags: -1}, api.ErrForm)
	wantCheck(t, api.Request{Kind: api.Delete, Key: "a", Exp: api.MaxNumber + 1}, api.ErrForm)
	wantCheck(t, api.Request{Kind: api.Delete, Key: "a", N: -1}, api.ErrForm)
	wantCheck(t, api.Request{Kind: api.Touch, Key: "a", Value: hugeValue}, api.ErrForm)
}
