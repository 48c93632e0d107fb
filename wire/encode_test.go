package wire_test

import (
	"reflect"
	"strings"
	"testing"

	"dovecote/api"
	"dovecote/wire"
)

// written: requests that may be, and their bytes.
var written = []struct {
	r    api.Request
	text string
}{
	{api.Request{Kind: api.Get, Keys: []string{"a"}}, "get a\n"},
	{api.Request{Kind: api.Get, Keys: []string{"b", "a", "b"}}, "get b a b\n"},
	{api.Request{Kind: api.Get, Keys: []string{"a", "noreply"}}, "get a noreply\n"},
	{api.Request{Kind: api.Get, Keys: keys(api.MaxKeys)}, "get" + strings.Repeat(" k", api.MaxKeys) + "\n"},
	{api.Request{Kind: api.Set, Key: "a", Flags: 1, Value: "hi", Quiet: true}, "set a 1 0 2 noreply\nhi\n"},
	{api.Request{Kind: api.Set, Key: "a"}, "set a 0 0 0\n\n"},
	{api.Request{Kind: api.Set, Key: longKey, Flags: api.MaxFlags, Exp: api.MaxNumber, Value: longValue}, "set " + longKey + " 65535 1099511627776 200\n" + longValue + "\n"},
	{api.Request{Kind: api.Add, Key: "a", Flags: 10, Exp: 20, Value: "a\nb"}, "add a 10 20 3\na\nb\n"},
	{api.Request{Kind: api.Replace, Key: "!~", Exp: 3, Value: "\n"}, "replace !~ 0 3 1\n\n\n"},
	{api.Request{Kind: api.Append, Key: "a", Value: "\x00\xff "}, "append a 0 0 3\n\x00\xff \n"},
	{api.Request{Kind: api.Prepend, Key: "noreply", Value: "x", Quiet: true}, "prepend noreply 0 0 1 noreply\nx\n"},
	{api.Request{Kind: api.Cas, Key: "a", Flags: 1, Exp: 2, N: 4, Value: "abc"}, "cas a 1 2 3 4\nabc\n"},
	{api.Request{Kind: api.Cas, Key: "a", N: api.MaxNumber, Quiet: true}, "cas a 0 0 0 1099511627776 noreply\n\n"},
	{api.Request{Kind: api.Delete, Key: "a"}, "delete a\n"},
	{api.Request{Kind: api.Delete, Key: "noreply"}, "delete noreply\n"},
	{api.Request{Kind: api.Delete, Key: "noreply", Quiet: true}, "delete noreply noreply\n"},
	{api.Request{Kind: api.Incr, Key: "a", N: 5}, "incr a 5\n"},
	{api.Request{Kind: api.Incr, Key: "a", N: 100, Quiet: true}, "incr a 100 noreply\n"},
	{api.Request{Kind: api.Decr, Key: "a"}, "decr a 0\n"},
	{api.Request{Kind: api.Touch, Key: "a", Exp: 9}, "touch a 9\n"},
	{api.Request{Kind: api.Touch, Key: "a", Quiet: true}, "touch a 0 noreply\n"},
	{api.Request{Kind: api.Flush}, "flush\n"},
	{api.Request{Kind: api.Flush, Quiet: true}, "flush noreply\n"},
}

// P1.3
func TestEncode(t *testing.T) {
	for _, c := range written {
		if got, e := wire.Encode(c.r); got != c.text || e != api.OK {
			t.Errorf("Encode(%+v): %q, %v, want %q", c.r, got, e, c.text)
		}
	}
}

func TestEncodeRefuses(t *testing.T) {
	for _, c := range []struct {
		r    api.Request
		want api.Errno
	}{
		{api.Request{}, api.ErrKind},
		{api.Request{Kind: api.Bad + 1}, api.ErrKind},
		{api.Request{Kind: api.Bad}, api.ErrKind},
		{api.Request{Kind: api.Bad, Quiet: true}, api.ErrForm},
		{api.Request{Kind: api.Bad, Key: "a"}, api.ErrForm},
		{api.Request{Kind: api.Get}, api.ErrForm},
		{api.Request{Kind: api.Get, Keys: keys(api.MaxKeys + 1)}, api.ErrForm},
		{api.Request{Kind: api.Set, Key: "a b"}, api.ErrForm},
		{api.Request{Kind: api.Set, Key: "a", Flags: api.MaxFlags + 1}, api.ErrRange},
		{api.Request{Kind: api.Incr, Key: "a", N: -1}, api.ErrRange},
		{api.Request{Kind: api.Set, Key: "a", Value: hugeValue}, api.ErrSize},
	} {
		if got, e := wire.Encode(c.r); got != "" || e != c.want {
			t.Errorf("Encode(%+v): %q, %v, want %v", c.r, got, e, c.want)
		}
	}
}

func TestEncodeLeavesKeysAlone(t *testing.T) {
	l := []string{"a", "b", "spare", "room"}
	if _, e := wire.Encode(api.Request{Kind: api.Get, Keys: l[:2]}); e != api.OK {
		t.Error(e)
	}
	if want := []string{"a", "b", "spare", "room"}; !reflect.DeepEqual(l, want) {
		t.Errorf("keys are %q, were %q", l, want)
	}
}
