package serve_test

import (
	"math/rand"
	"slices"
	"strings"
	"testing"

	"dovecote/api"
	"dovecote/serve"
	"dovecote/store"
	"dovecote/wire"
)

// drawn: a script that is drawn act by act, and what should come of it; requests are never read from their bytes here, and a store that is saved is put aside as it is.
type drawn struct {
	*rand.Rand
	setup  api.Setup
	acts   []api.Act
	told   []string
	store  api.Store
	saved  api.Store
	asked  [api.MaxConns]api.Request // of which a part was delivered
	behind [api.MaxConns]string      // the bytes of it that were not
}

func draw(seed int64) *drawn {
	d := &drawn{Rand: rand.New(rand.NewSource(seed)), told: make([]string, api.MaxConns)}
	d.setup = api.Setup{Pages: d.Intn(6), Flash: d.Intn(4)}
	d.store, _ = store.New(d.setup)
	d.saved = d.store
	for range d.Intn(api.MaxActs) {
		d.act()
	}
	return d
}

func (d *drawn) act() {
	a := api.Act{Kind: api.Deliver, Conn: d.Intn(api.MaxConns), N: d.Intn(9)}
	switch d.Intn(24) {
	case 0, 1:
		a.Kind = api.Tick
		d.store.Clock += a.N
	case 2, 3:
		a.Kind = api.Close
		d.behind[a.Conn] = ""
	case 4:
		a.Kind = api.Save
		d.saved = store.Copy(d.store)
	case 5:
		a.Kind = api.Restart
		d.store = store.Copy(d.saved)
		d.behind = [api.MaxConns]string{}
	default:
		a.Data = d.data(a.Conn)
	}
	d.acts = append(d.acts, a)
}

// data for a connection: it goes on where the last one for it ended.
func (d *drawn) data(conn int) string {
	out := ""
	for range d.Intn(5) {
		if d.behind[conn] == "" {
			d.asked[conn] = d.request()
			d.behind[conn], _ = wire.Encode(d.asked[conn])
		}
		n := len(d.behind[conn])
		if d.Intn(3) == 0 {
			n = 1 + d.Intn(n)
		}
		out += d.behind[conn][:n]
		d.behind[conn] = d.behind[conn][n:]
		if d.behind[conn] == "" {
			d.do(conn, d.asked[conn])
		}
	}
	return out
}

func (d *drawn) do(conn int, r api.Request) {
	s, reply, _ := store.Do(d.store, r)
	d.store = s
	if !r.Quiet || slices.Contains([]int{api.Failed, api.NoRoom, api.NoCount}, reply.Kind) {
		text, _ := wire.Print(reply)
		d.told[conn] += text
	}
}

func (d *drawn) request() api.Request {
	key := func() string { return []string{"a", "b", "c", "key", "long-key-name"}[d.Intn(5)] }
	r := api.Request{Kind: 1 + d.Intn(12), Key: key(), Quiet: d.Intn(4) == 0}
	switch {
	case r.Kind == api.Flush && d.Intn(4) > 0:
		return api.Request{Kind: api.Get, Keys: []string{key(), key()}}
	case r.Kind == api.Flush:
		r.Key = ""
	case r.Kind == api.Get:
		r = api.Request{Kind: api.Get, Keys: []string{key()}}
	case r.Kind <= api.Cas:
		r.Flags, r.Exp = d.Intn(9), d.Intn(2)*d.Intn(20)
		r.Value = []string{"", "7", "12\n", "get a\n", "\n\nflush\n"}[d.Intn(5)] + strings.Repeat("x", d.Intn(3)*d.Intn(60))
	case r.Kind == api.Touch:
		r.Exp = d.Intn(20)
	}
	if r.Kind == api.Cas || r.Kind == api.Incr || r.Kind == api.Decr {
		r.N = d.Intn(20)
	}
	return r
}

// P5.1 to P5.4
func TestDrawnScripts(t *testing.T) {
	for seed := range int64(300) {
		d := draw(seed)
		told, s := run(t, d.setup, d.acts)
		if !slices.Equal(told, d.told) || !sameStore(s, d.store) {
			t.Fatalf("seed %d: Run(%v, %v): told %q, want %q; the store is %+v, want %+v", seed, d.setup, d.acts, told, d.told, s, d.store)
		}
	}
}

// recut: the same bytes, cut into acts elsewhere.
func recut(r *rand.Rand, l []api.Act) []api.Act {
	var out []api.Act
	for _, a := range l {
		for a.Kind == api.Deliver && len(a.Data) > 1 && r.Intn(4) > 0 {
			n := 1 + r.Intn(len(a.Data)-1)
			out = append(out, deliver(a.Conn, a.Data[:n]))
			a.Data = a.Data[n:]
		}
		out = append(out, a)
	}
	return out
}

// P5.2
func TestCutsDoNotMatter(t *testing.T) {
	for seed := range int64(300) {
		d := draw(seed)
		d.acts = d.acts[:min(len(d.acts), 40)]
		told, s := run(t, d.setup, d.acts)
		l := recut(d.Rand, d.acts)
		if len(l) > api.MaxActs {
			continue
		}
		again, other := run(t, d.setup, l)
		if !slices.Equal(told, again) || !sameStore(s, other) {
			t.Fatalf("seed %d: Run(%v): told %q; Run(%v): told %q", seed, d.acts, told, l, again)
		}
	}
}

// FuzzRun: whatever comes, a call ends, does not panic, and tells the same however its bytes are cut.
func FuzzRun(f *testing.F) {
	f.Add("set a 7 0 2\nhi\nget a\nincr a 1\n", 1, 1, 5)
	f.Add("set a 0 0 6\nget a\n!", 0, 20, 1)
	f.Add(strings.Repeat("x", 302)+"\n", 40, 0, 301)
	f.Add("set a 0 0 2 noreply\n\n\n!flush noreply\n", -1, 2, 9)
	f.Fuzz(func(t *testing.T, data string, pages, flash, at int) {
		u := api.Setup{Pages: pages, Flash: flash}
		told, s, e := serve.Run(u, script(deliver(1, data)))
		if e != api.OK {
			wantRefused(t, u, script(deliver(1, data)), e)
			return
		}
		run(t, u, script(deliver(1, data)))
		if at < 0 || at > len(data) {
			at = len(data) / 2
		}
		again, other, _ := serve.Run(u, cutOnce(1, data, at, hangUp(0)))
		if !slices.Equal(told, again) || !sameStore(s, other) {
			t.Errorf("Run(%v, %q): told %q; cut at %d %q", u, data, told, at, again)
		}
	})
}
