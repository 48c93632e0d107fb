package snap_test

import (
	"bytes"
	"fmt"
	"slices"
	"strings"
	"testing"

	"dovecote/api"
	"dovecote/snap"
	"dovecote/store"
)

// mayNotBe: stores without numbers below 0 that can be told as bytes all the same.
func mayNotBe() []api.Store {
	return []api.Store{
		changed(func(s *api.Store) { s.Clock = api.MaxNumber + 1 }),
		changed(func(s *api.Store) { s.Clock = 1<<42 - 1 }),
		changed(func(s *api.Store) { s.Cas = 49 }),
		changed(func(s *api.Store) { s.Cas = api.MaxNumber + 1 }),
		changed(func(s *api.Store) { s.Uses = 69 }),
		changed(func(s *api.Store) { s.Uses = api.MaxNumber + 1 }),
		changed(func(s *api.Store) { s.Most = api.MaxPages + 1 }),
		changed(func(s *api.Store) { s.Most = 5 }),
		changed(func(s *api.Store) { s.Held[3] = 4 }),
		changed(func(s *api.Store) { s.Held[0] = 0 }),
		changed(func(s *api.Store) { s.Flash.Most = 1 }),
		changed(func(s *api.Store) { s.Flash.Most = api.MaxFlash + 1 }),
		changed(func(s *api.Store) { s.Flash.Next, s.Flash.Pages, s.Items = 0, nil, nil }),
		changed(func(s *api.Store) { s.Flash.Next = 2 }),
		changed(func(s *api.Store) { s.Flash.Next = 10 }), // then no far value is where its item says
		changed(func(s *api.Store) { s.Flash.Pages[0].Bytes = nil }),
		changed(func(s *api.Store) { s.Flash.Pages[0].Bytes[3]++ }),
		changed(func(s *api.Store) { s.Items[0], s.Items[2] = s.Items[2], s.Items[0] }),
		changed(func(s *api.Store) { s.Items[2].Key = "bb" }),
		changed(func(s *api.Store) { s.Items[0].Key = "" }),
		changed(func(s *api.Store) { s.Items[0].Key = "a b" }),
		changed(func(s *api.Store) { s.Items[0].Flags = api.MaxFlags + 1 }),
		changed(func(s *api.Store) { s.Items[0].Until = api.MaxNumber + 1 }),
		changed(func(s *api.Store) { s.Items[0].Cas = 0 }),
		changed(func(s *api.Store) { s.Items[0].Used = 0 }),
		changed(func(s *api.Store) { s.Items[1].Where.Page = 7 }),
		changed(func(s *api.Store) { s.Items[1].Where.At = 5 }),
		changed(func(s *api.Store) { s.Items[1].Where = api.Place{} }),
	}
}

// P4.4
func TestDecode(t *testing.T) {
	for _, s := range mayBe() {
		b := saved(partsOf(s)...)
		if got, e := snap.Decode(b); e != api.OK || !same(got, s) {
			t.Errorf("Decode(%v): %v, %v, want %v", b, got, e, s)
		}
	}
}

// P4.4: pages have the Numbers ahead of Next.
func TestDecodeNumbersPages(t *testing.T) {
	s := fresh(0, 4)
	s.Flash.Next = api.MaxNumber
	for i := range 4 {
		s.Flash.Pages = append(s.Flash.Pages, api.Page{Number: api.MaxNumber - 4 + i, Bytes: []byte(page("p"))})
	}
	wantBoth(t, s, saved(partsOf(s)...))
}

// P4.4: how many bytes there are comes first, then how they begin, then their seal.
func TestDecodeWrapping(t *testing.T) {
	wantRefused(t, "too many", make([]byte, api.MaxBytes+1), api.ErrSize)
	wantRefused(t, "too many, but for that in form", sealed(append([]byte("dc1"), make([]byte, api.MaxBytes-6)...)), api.ErrSize)
	wantRefused(t, "as many as may be, and no mark", make([]byte, api.MaxBytes), api.ErrForm)
	wantRefused(t, "as many as may be, and no seal", append([]byte("dc1"), make([]byte, api.MaxBytes-3)...), api.ErrSum)
	wantRefused(t, "as many as may be", sealed(append([]byte("dc1"), make([]byte, api.MaxBytes-7)...)), api.ErrForm)
	for n := range 7 {
		wantRefused(t, "too few", []byte("dc1dc1d")[:n], api.ErrShort)
		wantRefused(t, "too few, and no mark", []byte("xxxxxxx")[:n], api.ErrShort)
	}
	wantRefused(t, "nil", nil, api.ErrShort)
	wantRefused(t, "a mark, and no seal", []byte("dc10000"), api.ErrSum)
	wantRefused(t, "a mark and a seal", saved(), api.ErrShort)
	for _, mark := range []string{"dc2", "dc0", "Dc1", "dC1", "\x00c1", "1cd"} {
		b := append([]byte(mark), body(usualParts()...)[3:]...)
		wantRefused(t, "another mark", sealed(b), api.ErrForm)
		wantRefused(t, "another mark, and no seal", append(b, 0, 0, 0, 0), api.ErrForm)
		wantRefused(t, "another mark, and only a seal", sealed([]byte(mark)), api.ErrForm)
	}
}

// P4.4, P4.2: a byte that is other than it was is seen, wherever it is; so are two that change places.
func TestDecodeSum(t *testing.T) {
	good := saved(usualParts()...)
	for i := 3; i < len(good); i++ {
		for _, by := range []byte{1, 128, 255} {
			b := bytes.Clone(good)
			b[i] += by
			wantRefused(t, fmt.Sprintf("byte %d", i), b, api.ErrSum)
		}
		if i > 3 && good[i] != good[i-1] && i < len(good)-4 {
			b := bytes.Clone(good)
			b[i], b[i-1] = b[i-1], b[i]
			wantRefused(t, fmt.Sprintf("byte %d and that ahead of it", i), b, api.ErrSum)
		}
	}
	wantRefused(t, "the seal turned round", append(body(usualParts()...), reversed(good[len(good)-4:])...), api.ErrSum)
}

func reversed(b []byte) []byte {
	b = bytes.Clone(b)
	slices.Reverse(b)
	return b
}

// P4.4: bytes that end anywhere ahead of their end are too short; one more is left.
func TestDecodeCutAnywhere(t *testing.T) {
	for _, s := range []api.Store{fresh(0, 0), fresh(3, 2), usual()} {
		whole := body(partsOf(s)...)
		for n := 3; n < len(whole); n++ {
			wantRefused(t, fmt.Sprintf("%d of %d bytes", n, len(whole)), sealed(whole[:n]), api.ErrShort)
		}
		for _, more := range []string{"\x00", "\x80", "\x01\x02\x03"} {
			wantRefused(t, "bytes are left", sealed(append(bytes.Clone(whole), more...)), api.ErrForm)
		}
	}
}

// P4.4: wherever a number stands, those of texts too, it must be in form.
func TestDecodeNumbers(t *testing.T) {
	for i, part := range usualParts() {
		n, rest := part, raw("")
		if text, ok := part.(string); ok {
			n, rest = len(text), raw(text)
		}
		few := raw(body(n)[3:])
		needless := few[:len(few)-1] + raw([]byte{few[len(few)-1] + 128}) + "\x00"
		for _, c := range []struct {
			what string
			n    raw
		}{
			{"a needless byte", needless},
			{"two needless bytes", needless[:len(needless)-1] + "\x80\x00"},
			{"six bytes, the last one 0", "\x81\x80\x80\x80\x80\x00"},
			{"seven bytes", "\x81\x80\x80\x80\x80\x80\x01"},
			{"seven bytes, the last one 0", "\x81\x80\x80\x80\x80\x80\x00"},
			{"ten bytes", "\xff\xff\xff\xff\xff\xff\xff\xff\xff\x01"},
		} {
			parts := append(usualParts()[:i:i], c.n+rest)
			what := fmt.Sprintf("part %d: %s", i, c.what)
			wantRefused(t, what, saved(append(parts, usualParts()[i+1:]...)...), api.ErrForm)
			wantRefused(t, what+", and nothing behind it", saved(append(usualParts()[:i:i], c.n)...), api.ErrForm)
		}
	}
}

// P4.4: a number whose bytes end behind the sixth one, or ahead of it, ends too early, whatever the last one tells; one that has a seventh byte is in more than six.
func TestDecodeNumberCut(t *testing.T) {
	for i := range usualParts() {
		ahead := usualParts()[:i:i]
		for _, six := range []raw{"\x80\x80\x80\x80\x80\x80", "\xff\xff\xff\xff\xff\xff"} {
			for n := range len(six) + 1 {
				wantRefused(t, fmt.Sprintf("part %d: %q, and the end", i, six[:n]), saved(append(ahead, six[:n])...), api.ErrShort)
			}
			for _, seventh := range []raw{"\x00", "\x01", "\x7f", "\x80", "\xff"} {
				wantRefused(t, fmt.Sprintf("part %d: %q, and %q", i, six, seventh), saved(append(ahead, six+seventh)...), api.ErrForm)
			}
		}
	}
}

// P4.4: what is told to be too long is so ahead of its bytes, and of all that comes behind it.
func TestDecodeSizes(t *testing.T) {
	counts := []any{0, 1, 1, 40, 0, 0, 0, 40}
	flash := append(counts[:8:8], 20, 21)
	items := append(flash[:10:10], 0)
	item := append(items[:11:11], 1)
	value := append(item[:12:12], "k", 0, 0, 1, 1, 0)
	for _, c := range []struct {
		what  string
		ahead []any
		most  int
	}{
		{"pages", flash, api.MaxFlash},
		{"bytes of a page", append(flash[:10:10], 1), api.PageBytes},
		{"bytes of another page", append(flash[:10:10], 2, page("a")), api.PageBytes},
		{"items", items, api.MaxItems},
		{"bytes of a key", item, api.MaxKey},
		{"bytes of a value", value, api.MaxValue},
	} {
		for _, n := range []int{c.most + 1, c.most + 128, 1<<42 - 1} {
			b := append(c.ahead[:len(c.ahead):len(c.ahead)], n)
			what := fmt.Sprintf("%d %s", n, c.what)
			wantRefused(t, what, saved(b...), api.ErrSize)
			wantRefused(t, what+", and bytes", saved(append(b, raw(strings.Repeat("\x80", 5000)))...), api.ErrSize)
		}
		wantRefused(t, "as many "+c.what+" as may be, and the end", saved(append(c.ahead[:len(c.ahead):len(c.ahead)], c.most)...), api.ErrShort)
	}
}

// P4.4: as much as may be is no error.
func TestDecodeAsMuchAsMayBe(t *testing.T) {
	s := full()
	if len(s.Items) != api.MaxItems || len(s.Items[1].Key) != api.MaxKey || len(s.Items[0].Value) != api.MaxValue {
		t.Fatal("the full store is not full")
	}
	if len(s.Flash.Pages) != api.MaxFlash || len(s.Flash.Pages[0].Bytes) != api.PageBytes {
		t.Fatal("the full store's flash is not full")
	}
	wantBoth(t, s, saved(partsOf(s)...))
	s.Flash.Pages = s.Flash.Pages[:1]
	s.Flash.Next = 2
	s.Items = append(s.Items, api.Item{Key: "z", Cas: 1, Used: 1, Far: true, Where: api.Place{Page: 1}})
	wantRefused(t, "an item more", saved(partsOf(s)...), api.ErrSize)
}

// P4.4
func TestDecodeFar(t *testing.T) {
	ahead := []any{0, 1, 1, 1, 1, 0, 0, 0, 0, 1, 0, 1, "k", 0, 0, 1, 1}
	for _, n := range []int{2, 3, 127, 128, 129, 256, 257, 1<<42 - 1} {
		for _, behind := range [][]any{{}, {""}, {1, 0}, {0, "", 9}, {raw("\x80\x00")}, {201}} {
			b := append(append(ahead[:len(ahead):len(ahead)], n), behind...)
			wantRefused(t, fmt.Sprintf("far: %d, then %v", n, behind), saved(b...), api.ErrForm)
		}
	}
	wantRefused(t, "far, and no such place", saved(append(ahead[:len(ahead):len(ahead)], 1, 1, 0)...), api.ErrState)
	wantRefused(t, "far, with half a place", saved(append(ahead[:len(ahead):len(ahead)], 1, 1)...), api.ErrShort)
	wantRefused(t, "far, with a place and a value", saved(append(ahead[:len(ahead):len(ahead)], 1, 1, 0, "")...), api.ErrForm)
}

// P4.4: what is met first is told, and what store's Check refuses last of all.
func TestDecodeMeetsFirst(t *testing.T) {
	needless := raw("\x81\x00")
	for _, c := range []struct {
		what  string
		parts []any
		want  api.Errno
	}{
		{"a number, then the end", []any{needless}, api.ErrForm},
		{"a number, then too many pages", []any{0, 0, 0, 0, 0, 0, 0, 0, needless, 1, 21}, api.ErrForm},
		{"too many pages, then a number", []any{0, 0, 0, 0, 0, 0, 0, 0, 0, 1, 21, needless}, api.ErrSize},
		{"too many items, then bytes are left", []any{0, 0, 0, 0, 0, 0, 0, 0, 0, 1, 0, 1001, 0}, api.ErrSize},
		{"a state that may not be, then the end", []any{1<<42 - 1, 0, 0, 99, 99}, api.ErrShort},
		{"a state that may not be, then a number", []any{1<<42 - 1, 0, 0, 99, 99, needless}, api.ErrForm},
		{"a state that may not be, then too many pages", []any{1<<42 - 1, 0, 0, 99, 99, 0, 0, 0, 0, 0, 21}, api.ErrSize},
		{"a state that may not be, then bytes are left", []any{1<<42 - 1, 0, 0, 99, 99, 0, 0, 0, 0, 0, 0, 0, 0}, api.ErrForm},
		{"a state that may not be", []any{1<<42 - 1, 0, 0, 99, 99, 0, 0, 0, 0, 0, 0, 0}, api.ErrState},
		{"a text with too few bytes", []any{0, 0, 0, 0, 0, 0, 0, 0, 1, 2, 1, 4, raw("\x00\x00\x07")}, api.ErrShort},
		{"a long key behind a short page", []any{0, 0, 0, 0, 0, 0, 0, 0, 1, 2, 1, "", 1, 21}, api.ErrSize},
		{"no key, then a long value", []any{0, 0, 0, 0, 0, 0, 0, 0, 0, 1, 0, 1, "", 0, 0, 0, 0, 0, 201}, api.ErrSize},
	} {
		wantRefused(t, c.what, saved(c.parts...), c.want)
	}
}

// P4.4
func TestDecodeRefusesWhatCheckDoes(t *testing.T) {
	for i, s := range mayNotBe() {
		wantRefused(t, fmt.Sprintf("store %d", i), saved(partsOf(s)...), api.ErrState)
	}
}

// P4.4: what is handed in stays as it was, and what comes out is new memory, list by list.
func TestDecodeIsNewMemory(t *testing.T) {
	for _, want := range mayBe() {
		good := saved(partsOf(want)...)
		room := append(bytes.Clone(good), "spare room"...)
		s, _ := snap.Decode(room[:len(good)])
		if string(room) != string(good)+"spare room" {
			t.Errorf("Decode(%v): what was handed in is not as it was", good)
		}
		scribble(room)
		if !same(s, want) {
			t.Errorf("Decode(%v) keeps what was handed in", good)
		}
		was := string(room)
		for i, p := range s.Flash.Pages {
			scribble(p.Bytes)
			if string(room) != was {
				t.Errorf("Decode(%v): page %d shares memory with what was handed in", good, i)
			}
			scribble(p.Bytes) // twice is as it was
			for _, q := range s.Flash.Pages[:i] {
				scribble(q.Bytes)
			}
			if string(p.Bytes) != string(want.Flash.Pages[i].Bytes) {
				t.Errorf("Decode(%v): page %d shares memory with one ahead of it", good, i)
			}
			for _, q := range s.Flash.Pages[:i] {
				scribble(q.Bytes)
			}
		}
	}
}

// FuzzDecode: whatever bytes are, no call panics; what comes up may be, and is saved as the same bytes.
func FuzzDecode(f *testing.F) {
	for _, s := range mayBe()[:4] {
		f.Add(body(partsOf(s)...), true)
		f.Add(saved(partsOf(s)...), false)
	}
	f.Add(body(append(usualParts()[:11:11], page("short"), raw("\xff\xff\xff\xff\xff\xff\x01"))...), true)
	f.Fuzz(func(t *testing.T, b []byte, seal bool) {
		if seal {
			b = sealed(b)
		}
		was := string(b)
		s, e := snap.Decode(b)
		if string(b) != was {
			t.Fatalf("Decode(%q): what was handed in is not as it was", was)
		}
		if e != api.OK {
			if !same(s, api.Store{}) {
				t.Fatalf("Decode(%q): %v, %v", b, s, e)
			}
			return
		}
		if c := store.Check(s); c != api.OK {
			t.Fatalf("Decode(%q): %v may not be: %v", b, s, c)
		}
		if c, e := snap.Encode(s); e != api.OK || string(c) != string(b) {
			t.Fatalf("Encode(%v): %q, %v, want %q", s, c, e, b)
		}
	})
}
