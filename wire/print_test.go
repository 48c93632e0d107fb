package wire_test

import (
	"math"
	"reflect"
	"strings"
	"testing"

	"dovecote/api"
	"dovecote/wire"
)

func wantPrint(t *testing.T, r api.Reply, want string, errno api.Errno) {
	t.Helper()
	if got, e := wire.Print(r); got != want || e != errno {
		t.Errorf("Print(%+v): %q, %v, want %q, %v", r, got, e, want, errno)
	}
}

// hits: so many.
func hits(n int) []api.Hit {
	var l []api.Hit
	for range n {
		l = append(l, api.Hit{Key: "k"})
	}
	return l
}

// P1.6
func TestPrintWords(t *testing.T) {
	for kind, want := range map[int]string{
		api.Values:  "END\n",
		api.Stored:  "STORED\n",
		api.Not:     "NOT_STORED\n",
		api.Exists:  "EXISTS\n",
		api.Missing: "NOT_FOUND\n",
		api.Gone:    "DELETED\n",
		api.Number:  "0\n",
		api.Touched: "TOUCHED\n",
		api.Done:    "OK\n",
		api.Failed:  "ERROR\n",
		api.NoRoom:  "SERVER_ERROR no room\n",
		api.NoCount: "CLIENT_ERROR no number\n",
	} {
		wantPrint(t, api.Reply{Kind: kind}, want, api.OK)
		wantPrint(t, api.Reply{Kind: kind, Hits: []api.Hit{}}, want, api.OK)
	}
}

func TestPrintNumber(t *testing.T) {
	for n, want := range map[int]string{
		7: "7\n", -7: "-7\n", 100: "100\n", api.MaxNumber: "1099511627776\n",
		math.MaxInt: "9223372036854775807\n", math.MinInt: "-9223372036854775808\n",
	} {
		wantPrint(t, api.Reply{Kind: api.Number, N: n}, want, api.OK)
	}
}

func TestPrintHits(t *testing.T) {
	wantPrint(t, api.Reply{Kind: api.Values, Hits: []api.Hit{{Key: "a", Flags: 7, Cas: 1, Value: "hi"}}}, "VALUE a 7 2 1\nhi\nEND\n", api.OK)
	wantPrint(t, api.Reply{Kind: api.Values, Hits: []api.Hit{{Key: "b"}, {Key: "a", Flags: -7, Cas: -1, Value: "x\ny\n"}, {Key: "b"}}},
		"VALUE b 0 0 0\n\nVALUE a -7 4 -1\nx\ny\n\nVALUE b 0 0 0\n\nEND\n", api.OK)
	wantPrint(t, api.Reply{Kind: api.Values, Hits: []api.Hit{{Key: longKey, Flags: math.MinInt, Cas: math.MaxInt, Value: longValue}}},
		"VALUE "+longKey+" -9223372036854775808 200 9223372036854775807\n"+longValue+"\nEND\n", api.OK)
	wantPrint(t, api.Reply{Kind: api.Values, Hits: hits(api.MaxKeys)}, strings.Repeat("VALUE k 0 0 0\n\n", api.MaxKeys)+"END\n", api.OK)
}

func TestPrintRefuses(t *testing.T) {
	for _, kind := range []int{0, -1, api.NoCount + 1, math.MinInt, math.MaxInt} {
		wantPrint(t, api.Reply{Kind: kind}, "", api.ErrKind)
		wantPrint(t, api.Reply{Kind: kind, N: 1, Hits: hits(1)}, "", api.ErrKind)
	}
	for kind := api.Values; kind <= api.NoCount; kind++ {
		if kind != api.Values {
			wantPrint(t, api.Reply{Kind: kind, Hits: hits(1)}, "", api.ErrForm)
		}
		if kind != api.Number {
			wantPrint(t, api.Reply{Kind: kind, N: 1}, "", api.ErrForm)
			wantPrint(t, api.Reply{Kind: kind, N: -1}, "", api.ErrForm)
		}
	}
	wantPrint(t, api.Reply{Kind: api.Values, Hits: hits(api.MaxKeys + 1)}, "", api.ErrForm)
	for _, h := range []api.Hit{{}, {Key: "a b"}, {Key: tooLong}, {Key: "a", Value: hugeValue}} {
		wantPrint(t, api.Reply{Kind: api.Values, Hits: []api.Hit{h}}, "", api.ErrForm)
		wantPrint(t, api.Reply{Kind: api.Values, Hits: []api.Hit{{Key: "a"}, h}}, "", api.ErrForm)
	}
}

func TestPrintLeavesHitsAlone(t *testing.T) {
	l := []api.Hit{{Key: "a", Value: "x"}, {Key: "spare"}}
	wantPrint(t, api.Reply{Kind: api.Values, Hits: l[:1]}, "VALUE a 0 1 0\nx\nEND\n", api.OK)
	if want := []api.Hit{{Key: "a", Value: "x"}, {Key: "spare"}}; !reflect.DeepEqual(l, want) {
		t.Errorf("hits are %v, were %v", l, want)
	}
}
