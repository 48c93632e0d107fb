package serve_test

import (
	"math"
	"reflect"
	"slices"
	"strings"
	"testing"

	"dovecote/api"
	"dovecote/serve"
	"dovecote/store"
)

// small: a page of memory and one of flash.
var small = api.Setup{Pages: 1, Flash: 1}

var (
	save    = api.Act{Kind: api.Save}
	restart = api.Act{Kind: api.Restart}
)

func deliver(conn int, data string) api.Act {
	return api.Act{Kind: api.Deliver, Conn: conn, Data: data}
}

func tick(n int) api.Act { return api.Act{Kind: api.Tick, N: n} }

func hangUp(conn int) api.Act { return api.Act{Kind: api.Close, Conn: conn} }

// script of acts.
func script(l ...api.Act) []api.Act { return l }

// run a script that nothing is wrong with.
func run(t *testing.T, u api.Setup, l []api.Act) ([]string, api.Store) {
	t.Helper()
	told, s, e := serve.Run(u, l)
	if e != api.OK || len(told) != api.MaxConns {
		t.Fatalf("Run(%v, %v): %v, on %d connections", u, l, e, len(told))
	}
	if e := store.Check(s); e != api.OK {
		t.Fatalf("Run(%v, %v): the store is one that may not be: %+v", u, l, s)
	}
	return told, s
}

// wantTold: on the first connections; on all others nothing is.
func wantTold(t *testing.T, l []api.Act, want ...string) {
	t.Helper()
	got, _ := run(t, small, l)
	for len(want) < api.MaxConns {
		want = append(want, "")
	}
	if !slices.Equal(got, want) {
		t.Errorf("Run(%v): told %q, want %q", l, got, want)
	}
}

func wantRefused(t *testing.T, u api.Setup, l []api.Act, want api.Errno) {
	t.Helper()
	told, s, e := serve.Run(u, l)
	if e != want || len(told) != 0 || !reflect.DeepEqual(s, api.Store{}) {
		t.Errorf("Run(%v, %d acts): %q, %+v, %v, want nothing, %v", u, len(l), told, s, e, want)
	}
}

// sameStore: are they, whether lists without elements are nil or not?
func sameStore(a, b api.Store) bool {
	return reflect.DeepEqual(store.Copy(a), store.Copy(b))
}

// P5.1
func TestRunExample(t *testing.T) {
	wantTold(t, script(deliver(0, "set a 7 0 2\nhi\nget a\nincr a 1\n")), "STORED\nVALUE a 7 2 1\nhi\nEND\nCLIENT_ERROR no number\n")
}

func TestRunWithoutActs(t *testing.T) {
	for _, u := range []api.Setup{{}, small, {Pages: api.MaxPages, Flash: api.MaxFlash}} {
		for _, l := range [][]api.Act{nil, {}} {
			told, s := run(t, u, l)
			if want, _ := store.New(u); !sameStore(s, want) {
				t.Errorf("Run(%v): the store is %+v, want %+v", u, s, want)
			}
			if !slices.Equal(told, make([]string, api.MaxConns)) {
				t.Errorf("Run(%v): told %q", u, told)
			}
		}
	}
}

func TestRunTellsOnEachConnection(t *testing.T) {
	wantTold(t, script(
		deliver(3, "set a 0 0 1\nx\n"),
		deliver(1, "get a\n"),
		deliver(0, "delete a\n"),
		deliver(1, "get a\n"),
		deliver(2, "no such\n"),
		deliver(3, "flush\n"),
	), "DELETED\n", "VALUE a 0 1 1\nx\nEND\nEND\n", "ERROR\n", "STORED\nOK\n")
}

func TestRunAnswersTheStore(t *testing.T) {
	_, s := run(t, small, script(deliver(1, "set b 7 9 2\nhi\n"), tick(3), deliver(2, "set a 0 0 0\n\nget b\n")))
	want := api.Store{Clock: 3, Cas: 2, Uses: 3, Most: 1, Held: [4]int{1}, Flash: api.Flash{Most: 1, Next: 1}, Items: []api.Item{
		{Key: "a", Cas: 2, Used: 2},
		{Key: "b", Flags: 7, Until: 9, Cas: 1, Used: 3, Value: "hi"},
	}}
	if !sameStore(s, want) {
		t.Errorf("the store is %+v, want %+v", s, want)
	}
}

func TestRunRefusesSetups(t *testing.T) {
	tooMany := make([]api.Act, api.MaxActs+1)
	for _, n := range []int{math.MinInt, -1, api.MaxPages + 1, math.MaxInt} {
		for _, u := range []api.Setup{{Pages: n}, {Flash: n}} {
			wantRefused(t, u, nil, api.ErrRange)
			wantRefused(t, u, tooMany, api.ErrRange)
			wantRefused(t, u, script(api.Act{}), api.ErrRange)
		}
	}
	wantRefused(t, api.Setup{Flash: api.MaxFlash + 1}, nil, api.ErrRange)
}

func TestRunRefusesTooManyActs(t *testing.T) {
	l := slices.Repeat(script(deliver(0, "flush\n")), api.MaxActs+1)
	wantRefused(t, small, l, api.ErrSize)
	wantTold(t, l[:api.MaxActs], strings.Repeat("OK\n", api.MaxActs))
	// Ahead of what is wrong with an act.
	l[0].Kind = 0
	wantRefused(t, small, l, api.ErrSize)
	wantRefused(t, small, l[:api.MaxActs], api.ErrKind)
}

func TestRunRefusesTooMuchData(t *testing.T) {
	much, more := strings.Repeat("\n", 2000), strings.Repeat("\n", 2001)
	wantTold(t, script(deliver(0, much)), strings.Repeat("ERROR\n", 2000))
	for _, a := range script(deliver(0, ""), deliver(9, ""), tick(1), tick(-1), hangUp(0), save, restart, api.Act{}) {
		a.Data = more
		wantRefused(t, small, script(a), api.ErrSize)
		wantRefused(t, small, script(save, a, save), api.ErrSize)
		wantRefused(t, small, script(deliver(-1, ""), api.Act{}, a), api.ErrSize)
	}
	for _, a := range script(tick(1), hangUp(0), save, restart) {
		a.Data = much
		wantTold(t, script(a))
	}
}

func TestRunRefusesKinds(t *testing.T) {
	for _, kind := range []int{math.MinInt, -1, 0, api.Restart + 1, math.MaxInt} {
		wantRefused(t, small, script(api.Act{Kind: kind}), api.ErrKind)
		wantRefused(t, small, script(api.Act{Kind: kind, Conn: -1, N: -1, Data: "flush\n"}), api.ErrKind)
		wantRefused(t, small, script(deliver(0, "flush\n"), save, api.Act{Kind: kind}), api.ErrKind)
	}
}

func TestRunRefusesConnections(t *testing.T) {
	for _, conn := range []int{math.MinInt, -1, api.MaxConns, math.MaxInt} {
		wantRefused(t, small, script(deliver(conn, "flush\n")), api.ErrRange)
		wantRefused(t, small, script(deliver(conn, "")), api.ErrRange)
		wantRefused(t, small, script(hangUp(conn)), api.ErrRange)
		wantRefused(t, small, script(deliver(0, "flush\n"), deliver(conn, "f")), api.ErrRange)
		for _, a := range script(tick(1), save, restart) {
			a.Conn = conn
			wantTold(t, script(a))
		}
	}
}

func TestRunTellsTheFirstError(t *testing.T) {
	noKind := api.Act{Kind: 9}
	for _, a := range script(tick(-1), tick(api.MaxTick+1), deliver(api.MaxConns, ""), hangUp(-1)) {
		wantRefused(t, small, script(a, noKind), api.ErrRange)
		wantRefused(t, small, script(noKind, a), api.ErrKind)
		wantRefused(t, small, script(save, a, restart, noKind), api.ErrRange)
	}
}

// What holds everywhere: what was handed in stays as it was, and what comes out is new memory.
func TestRunSharesNothing(t *testing.T) {
	far := strings.Repeat("v", 60)
	l := script(deliver(0, "set a 0 0 60\n"+far+"\nset b 0 0 60\n"+far+"\n"), save, restart, deliver(0, "set c 0 0 60\n"+far+"\n"), hangUp(7))
	l, before := l[:4], slices.Clone(l)
	told, s := run(t, small, l)
	again, other := run(t, small, l)
	if !slices.Equal(l[:5], before) {
		t.Errorf("acts are %v, were %v", l[:5], before)
	}
	if len(s.Flash.Pages) == 0 {
		t.Fatal("nothing is on flash")
	}
	keep := store.Copy(other)
	clear(told[:cap(told)])
	clear(s.Items[:cap(s.Items)])
	for _, p := range s.Flash.Pages {
		clear(p.Bytes[:cap(p.Bytes)])
	}
	clear(s.Flash.Pages[:cap(s.Flash.Pages)])
	if again[0] != "STORED\nSTORED\nSTORED\n" || !sameStore(other, keep) {
		t.Errorf("a change of one answer changed another one: %q, %+v", again, other)
	}
}
