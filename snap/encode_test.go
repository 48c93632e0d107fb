package snap_test

import (
	"encoding/binary"
	"fmt"
	"hash/adler32"
	"math/rand"
	"strings"
	"testing"

	"dovecote/api"
	"dovecote/snap"
	"dovecote/store"
)

// P4.1
func TestNumbers(t *testing.T) {
	for _, c := range []struct {
		n    int
		want raw
	}{
		{0, "\x00"}, {1, "\x01"}, {127, "\x7f"},
		{128, "\x80\x01"}, {300, "\xac\x02"}, {16383, "\xff\x7f"},
		{16384, "\x80\x80\x01"}, {1<<21 - 1, "\xff\xff\x7f"},
		{1 << 21, "\x80\x80\x80\x01"}, {1<<28 - 1, "\xff\xff\xff\x7f"},
		{1 << 28, "\x80\x80\x80\x80\x01"}, {1<<35 - 1, "\xff\xff\xff\xff\x7f"},
		{1 << 35, "\x80\x80\x80\x80\x80\x01"},
		{api.MaxNumber - 1, "\xff\xff\xff\xff\xff\x1f"}, {api.MaxNumber, "\x80\x80\x80\x80\x80\x20"},
	} {
		s := fresh(0, 0)
		s.Clock = c.n
		wantBoth(t, s, saved(c.want, 0, 0, 0, 0, 0, 0, 0, 0, 1, 0, 0))
	}
}

// P4.1: values and pages of all lengths at which a text's length takes other bytes.
func TestTexts(t *testing.T) {
	for _, c := range []struct {
		n    int
		want raw
	}{{0, "\x00"}, {1, "\x01"}, {127, "\x7f"}, {128, "\x80\x01"}, {200, "\xc8\x01"}} {
		s := fresh(1, 0)
		s.Cas, s.Uses = 1, 1
		s.Items = []api.Item{{Key: "k", Cas: 1, Used: 1, Value: value(c.n)}}
		s.Held[store.Class(1, c.n)] = 1
		wantBoth(t, s, saved(0, 1, 1, 1, s.Held[0], s.Held[1], s.Held[2], s.Held[3], 0, 1, 0, 1, raw("\x01k"), 0, 0, 1, 1, 0, c.want+raw(value(c.n))))
	}
	for _, c := range []struct {
		bytes string
		want  raw
	}{
		{page(""), "\x03"}, {page(value(124)), "\x7f"}, {page(value(125)), "\x80\x01"}, {page(value(200), value(50)), "\x80\x02"},
	} {
		s := fresh(0, 1)
		s.Flash.Next, s.Flash.Pages = 2, []api.Page{{Number: 1, Bytes: []byte(c.bytes)}}
		wantBoth(t, s, saved(0, 0, 0, 0, 0, 0, 0, 0, 1, 2, 1, c.want+raw(c.bytes), 0))
	}
}

// P4.2: a seal that is written out, and one of so many great bytes that both numbers go beyond 65521.
func TestSeal(t *testing.T) {
	wantBoth(t, fresh(0, 0), []byte("dc1\x00\x00\x00\x00\x00\x00\x00\x00\x00\x01\x00\x00\x0d\xd5\x00\xfa"))
	b, _ := snap.Encode(full())
	sum := 0
	for _, c := range b[:len(b)-4] {
		sum += int(c)
	}
	if sum < 10*65521 {
		t.Fatalf("the bytes sum up to %d: the first number does not go round", sum)
	}
	if got, want := binary.BigEndian.Uint32(b[len(b)-4:]), adler32.Checksum(b[:len(b)-4]); got != want {
		t.Errorf("the seal of the full store: %x, want %x", got, want)
	}
}

// P4.2: bytes for which a number of the seal is the last one below 65521, or goes round to 0 or 1.
func TestSealAtItsBound(t *testing.T) {
	for _, want := range []int{65520, 0, 1} {
		for at, weight := range []func(i int) int{
			func(i int) int { return 200 - i }, // in the second number a byte counts once more for each one behind it
			func(i int) int { return 1 },
		} {
			s := steered(2*at, want, weight)
			b := saved(partsOf(s)...)
			if got := sealNumber(b, 2*at); got != want {
				t.Fatalf("number %d of the seal is %d, and not steered to %d", at, got, want)
			}
			wantBoth(t, s, b)
		}
	}
}

func sealNumber(b []byte, at int) int { return int(binary.BigEndian.Uint16(b[len(b)-4+at:])) }

// steered: a store whose last bytes, those of a value, make the number at a place of the seal what it should be; each of them counts there so much.
func steered(at, want int, weight func(i int) int) api.Store {
	v := make([]byte, 200)
	s := fresh(1, 1)
	s.Flash.Next, s.Flash.Pages = 2, []api.Page{{Number: 1, Bytes: []byte(page(strings.Repeat("\xff", 100)))}}
	s.Held[3], s.Cas, s.Uses = 1, 1, 1
	s.Items = []api.Item{{Key: "k", Cas: 1, Used: 1, Value: string(v)}}
	need := (want - sealNumber(saved(partsOf(s)...), at) + 65521) % 65521
	for i := range v {
		n := min(255, need/weight(i))
		v[i] = byte(n)
		need -= n * weight(i)
	}
	s.Items[0].Value = string(v)
	return s
}

// P4.3
func TestEncode(t *testing.T) {
	wantBoth(t, usual(), saved(usualParts()...))
	wantBoth(t, fresh(3, 2), saved(0, 0, 0, 3, 0, 0, 0, 0, 2, 1, 0, 0))
	for _, s := range mayBe() {
		wantBoth(t, s, saved(partsOf(s)...))
	}
}

// P4.3: what the whole of it is in bytes, once.
func TestEncodeToTheByte(t *testing.T) {
	s := fresh(2, 1)
	s.Clock, s.Cas, s.Uses, s.Held = 5, 7, 200, [4]int{1, 0, 1, 0}
	s.Items = []api.Item{{Key: "key", Flags: 1, Until: 9, Cas: 7, Used: 130, Value: "hi"}}
	want := "dc1" + "\x05\x07\xc8\x01\x02" + "\x01\x00\x01\x00" + "\x01\x01\x00" + "\x01" + "\x03key\x01\x09\x07\x82\x01\x00\x02hi"
	wantBoth(t, s, sealed([]byte(want)))
}

// P4.3
func TestEncodeRefuses(t *testing.T) {
	for i, s := range mayNotBe() {
		if b, e := snap.Encode(s); e != api.ErrState || len(b) != 0 {
			t.Errorf("Encode of store %d: %v: %v, %v", i, s, b, e)
		}
	}
	for _, s := range []api.Store{{}, {Clock: -1}, changed(func(s *api.Store) { s.Held[2] = -1 }), changed(func(s *api.Store) { s.Items[0].Until = -1 })} {
		if b, e := snap.Encode(s); e != api.ErrState || len(b) != 0 {
			t.Errorf("Encode(%v): %v, %v", s, b, e)
		}
	}
}

// P4.3: what is handed in stays as it was, and what comes out is new memory.
func TestEncodeIsNewMemory(t *testing.T) {
	for _, s := range mayBe() {
		s.Items = append(make([]api.Item, 0, len(s.Items)+2), s.Items...)
		for i, p := range s.Flash.Pages {
			s.Flash.Pages[i].Bytes = append(make([]byte, 0, 400), p.Bytes...)
		}
		was := picture(s)
		b, _ := snap.Encode(s)
		scribble(b)
		if picture(s) != was {
			t.Errorf("Encode(%v): what was handed in is not as it was", s)
		}
		c, _ := snap.Encode(s)
		if string(c) != string(saved(partsOf(s)...)) {
			t.Errorf("Encode(%v): two answers share memory", s)
		}
	}
}

// picture of a store, spare room too.
func picture(s api.Store) string {
	out := fmt.Sprintf("%#v", s.Items[:cap(s.Items)])
	for _, p := range s.Flash.Pages[:cap(s.Flash.Pages)] {
		out += fmt.Sprintf("%d %q", p.Number, p.Bytes[:cap(p.Bytes)])
	}
	return out
}

// scribble over bytes, spare room too.
func scribble(b []byte) {
	for i := range b[:cap(b)] {
		b[:cap(b)][i] ^= 0x55
	}
}

// P4.3, P4.4: stores that requests have made.
func TestDrawnStores(t *testing.T) {
	d := rand.New(rand.NewSource(4))
	far := 0
	for run := range 60 {
		s := fresh(run%7, run%4)
		for range d.Intn(80) {
			v := strings.Repeat(string([]byte{byte(d.Intn(256))}), d.Intn(201))
			r := api.Request{Kind: api.Set, Key: fmt.Sprintf("key%d", d.Intn(15)), Flags: d.Intn(70000) % 65536, Exp: d.Intn(2) * d.Intn(1<<30), Value: v}
			s, _, _ = store.Do(s, r)
			s, _ = store.Tick(s, d.Intn(api.MaxTick))
		}
		for _, it := range s.Items {
			if it.Far {
				far++
			}
		}
		wantBoth(t, s, saved(partsOf(s)...))
	}
	if far == 0 {
		t.Error("no item is far: these stores try too little")
	}
}
