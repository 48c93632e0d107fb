package serve_test

import (
	"math"
	"slices"
	"strings"
	"testing"

	"dovecote/api"
	"dovecote/store"
)

// P5.4
func TestTick(t *testing.T) {
	set := deliver(0, "set a 0 5 1 noreply\nx\n")
	get := deliver(0, "get a\n")
	there := "VALUE a 0 1 1\nx\nEND\n"
	wantTold(t, script(set, tick(0), get, tick(4), get, tick(1), get), there+there+"END\n")
	wantTold(t, script(tick(9), set, tick(4), get, tick(0), get, tick(1), get), there+there+"END\n")
	for _, n := range []int{0, 1, 999, api.MaxTick} {
		_, s := run(t, small, script(tick(n), tick(1), tick(n)))
		if s.Clock != 2*n+1 {
			t.Errorf("%d ticks, one, and %d: the Clock is %d", n, n, s.Clock)
		}
	}
	_, s := run(t, small, slices.Repeat(script(tick(api.MaxTick)), api.MaxActs))
	if s.Clock != api.MaxTick*api.MaxActs {
		t.Errorf("the Clock is %d", s.Clock)
	}
}

func TestTickRefuses(t *testing.T) {
	for _, n := range []int{math.MinInt, -1, api.MaxTick + 1, math.MaxInt} {
		wantRefused(t, small, script(tick(n)), api.ErrRange)
		wantRefused(t, small, script(deliver(0, "flush\n"), tick(1), tick(n), save), api.ErrRange)
		// It is only of a Tick that N counts.
		for _, a := range script(deliver(0, ""), hangUp(0), save, restart) {
			a.N = n
			wantTold(t, script(a))
		}
	}
}

func TestTickAndSaveLeaveWhatWaits(t *testing.T) {
	for _, a := range script(tick(0), tick(7), save, deliver(0, ""), deliver(1, "x"), hangUp(1)) {
		wantTold(t, cutOnce(0, "set a 0 0 2\nhi\nget a\n", 13, a), "STORED\nVALUE a 0 2 1\nhi\nEND\n")
	}
}

func TestClose(t *testing.T) {
	wantTold(t, script(deliver(0, "flush\nno"), hangUp(0), deliver(0, "flush\n")), "OK\nOK\n")
	wantTold(t, script(deliver(0, "set a 0 0 2\nh"), hangUp(0), deliver(0, "get a\n")), "END\n")
	wantTold(t, script(deliver(0, strings.Repeat("x", 300)), hangUp(0), deliver(0, "x")), "")
	wantTold(t, script(hangUp(0), hangUp(0), deliver(0, "flush\n"), hangUp(0)), "OK\n")
}

func TestCloseOfOneAlone(t *testing.T) {
	for conn := range api.MaxConns {
		var l []api.Act
		for c := range api.MaxConns {
			l = append(l, deliver(c, "no"))
		}
		l = append(l, hangUp(conn))
		want := make([]string, api.MaxConns)
		for c := range api.MaxConns {
			l = append(l, deliver(c, "flush\n"))
			want[c] = "ERROR\n"
		}
		want[conn] = "OK\n"
		wantTold(t, l, want...)
	}
}

func TestCloseLeavesTheStore(t *testing.T) {
	l := script(deliver(0, "set a 1 2 1\nx\nget"), tick(1))
	_, before := run(t, small, l)
	if _, after := run(t, small, append(l, hangUp(0))); !sameStore(before, after) {
		t.Errorf("the store is %+v, was %+v", after, before)
	}
}

func TestRestartFromWhatWasSaved(t *testing.T) {
	set := func(v string) api.Act { return deliver(0, "set a 0 0 1 noreply\n"+v+"\n") }
	get := deliver(0, "get a\n")
	x, y := "VALUE a 0 1 1\nx\nEND\n", "VALUE a 0 1 2\ny\nEND\n"
	for _, c := range []struct {
		l    []api.Act
		want string
	}{
		{script(set("x"), restart, get), "END\n"},
		{script(set("x"), save, restart, get), x},
		{script(set("x"), save, get, set("y"), restart, get), x + x},
		{script(set("x"), save, set("y"), restart, get, restart, get), x + x},
		{script(set("x"), save, set("y"), save, restart, get), y},
		{script(set("x"), save, restart, set("y"), restart, get), x},
		{script(set("x"), save, restart, set("y"), save, restart, get), y},
		{script(save, set("x"), restart, get), "END\n"},
		{script(set("x"), save, deliver(0, "flush\n"), restart, get), "OK\n" + x},
		{script(set("x"), restart, save, set("y"), restart, get), "END\n"},
		{script(set("x"), save, hangUp(0), restart, get), x},
	} {
		wantTold(t, c.l, c.want)
	}
}

// The whole store is kept: its clock, what is far, and who was asked last.
func TestSaveKeepsTheStoreAsItIs(t *testing.T) {
	v := strings.Repeat("v", 60)
	l := script(tick(3), deliver(0, "set a 1 9 60\n"+v+"\nset b 2 0 60\n"+v+"\nset c 3 0 60\n"+v+"\nget a b\n"), tick(2))
	_, before := run(t, small, l)
	if !slices.ContainsFunc(before.Items, func(it api.Item) bool { return it.Far }) {
		t.Fatalf("nothing is on flash: %+v", before)
	}
	_, after := run(t, small, append(l, save, tick(4), deliver(1, "set d 0 0 60\n"+v+"\nflush\nget"), restart))
	if !sameStore(before, after) {
		t.Errorf("the store is %+v, was %+v", after, before)
	}
	_, after = run(t, small, append(l, save))
	if !sameStore(before, after) {
		t.Errorf("the store is %+v, was %+v", after, before)
	}
}

func TestRestartWithoutSave(t *testing.T) {
	for _, u := range []api.Setup{{}, small, {Pages: api.MaxPages, Flash: api.MaxFlash}} {
		_, s := run(t, u, script(deliver(0, "set a 0 0 1\nx\n"), tick(5), restart))
		if want, _ := store.New(u); !sameStore(s, want) {
			t.Errorf("Run(%v): the store is %+v, want %+v", u, s, want)
		}
	}
}

func TestRestartForgetsWhatWaits(t *testing.T) {
	for _, first := range [][]api.Act{nil, script(save)} {
		l := slices.Clone(first)
		for conn := range api.MaxConns {
			l = append(l, deliver(conn, "flush\nno"))
		}
		l = append(l, restart)
		for conn := range api.MaxConns {
			l = append(l, deliver(conn, "flush\n"))
		}
		told := "OK\nOK\n"
		wantTold(t, l, told, told, told, told)
	}
	// What waited when the store was saved is not saved with it.
	wantTold(t, script(deliver(0, "no"), save, restart, deliver(0, "flush\n")), "OK\n")
}
