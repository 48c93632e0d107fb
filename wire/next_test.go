package wire_test

import (
	"reflect"
	"strings"
	"testing"

	"dovecote/api"
	"dovecote/wire"
)

var bad = api.Request{Kind: api.Bad}

func wantNext(t *testing.T, s string, want api.Request, bytes int) {
	t.Helper()
	r, n := wire.Next(s)
	if len(r.Keys) == 0 {
		r.Keys = nil
	}
	if !reflect.DeepEqual(r, want) || n != bytes {
		t.Errorf("Next(%q): %+v, %d, want %+v, %d", s, r, n, want, bytes)
	}
}

// wantBadLine: a Bad of the first line alone.
func wantBadLine(t *testing.T, s string) {
	t.Helper()
	wantNext(t, s, bad, strings.IndexByte(s, '\n')+1)
}

// P1.4, P1.5
func TestNextReadsWhatEncodeWrites(t *testing.T) {
	for _, c := range written {
		for _, tail := range []string{"", "\n", "get a\n", "x", " noreply\n", strings.Repeat("x", 2*api.MaxLine)} {
			wantNext(t, c.text+tail, c.r, len(c.text))
		}
		for i := range c.text {
			wantNext(t, c.text[:i], api.Request{}, 0)
		}
	}
}

// P1.4
func TestNextWithoutLine(t *testing.T) {
	for _, s := range []string{"", "get a", "what", " ", strings.Repeat("x", api.MaxLine)} {
		wantNext(t, s, api.Request{}, 0)
	}
	for _, n := range []int{api.MaxLine + 1, api.MaxLine + 2, 10 * api.MaxLine} {
		wantNext(t, strings.Repeat("x", n), bad, n)
	}
	wantNext(t, "get a"+strings.Repeat(" a", api.MaxLine), bad, 5+2*api.MaxLine)
}

// P1.4: a set whose key is too long shows how long its line may be: if it is read its value goes too.
func TestNextLongLine(t *testing.T) {
	line := func(n int) string { return "set " + strings.Repeat("k", n-len("set  0 0 2")) + " 0 0 2" }
	wantNext(t, line(api.MaxLine)+"\nhi\n", bad, api.MaxLine+4)
	wantNext(t, line(api.MaxLine+1)+"\nhi\n", bad, api.MaxLine+2)
	wantNext(t, strings.Repeat("x", 3*api.MaxLine)+"\nget a\n", bad, 3*api.MaxLine+1)
}

// P1.4
func TestNextBadLines(t *testing.T) {
	for _, s := range []string{
		"\n", " \n", "what\n", "GET a\n", "Get a\n", "geta\n", " get a\n", "get a\r\n", "bad\n", "noreply\n",
		"get\n", "get \n", "get a \n", "get  a\n", "get a  b\n", "get a\tb\n", "get " + tooLong + "\n",
		"get" + strings.Repeat(" k", api.MaxKeys+1) + "\n",
		"delete\n", "delete \n", "delete a b\n", "delete a noreply noreply\n", "delete a noreply \n", "delete a  noreply\n", "delete a NOREPLY\n", "delete " + tooLong + "\n", "delete a 0\n",
		"incr a\n", "incr a noreply\n", "incr a x\n", "incr a 1 2\n", "incr a -1\n", "incr a +1\n", "incr a 01\n", "incr a 00\n", "incr a 1.0\n", "incr a 0x1\n", "incr a 1_0\n", "incr a \n", "incr 1\n", "incr a 1 \n",
		"incr a 1099511627777\n", "incr a 9223372036854775808\n", "incr a 18446744073709551617\n", "incr a 340282366920938463463374607431768211457\n", "incr a :\n", "incr a /\n", "incr a \xd9\xa1\n",
		"decr a\n", "decr a -0\n", "decr \xff 1\n", "touch a\n", "touch a noreply\n", "touch a 1 2\n", "touch a 1099511627777\n", "touch a 1 noreply x\n",
		"flush 0\n", "flush noreply noreply\n", "flush \n", "flush a\n",
	} {
		wantNext(t, s, bad, len(s))
		wantNext(t, s+"get a\n", bad, len(s))
	}
}

// P1.4
func TestNextNoreplyIsOneWordMore(t *testing.T) {
	wantNext(t, "touch noreply 7\n", api.Request{Kind: api.Touch, Key: "noreply", Exp: 7}, 16)
	wantNext(t, "incr noreply 7 noreply\n", api.Request{Kind: api.Incr, Key: "noreply", N: 7, Quiet: true}, 23)
	wantNext(t, "get noreply\n", api.Request{Kind: api.Get, Keys: []string{"noreply"}}, 12)
	wantBadLine(t, "set noreply 0 0 noreply\nhi\n")
	wantBadLine(t, "set a 0 0 noreply 2\nhi\n")
}

// P1.4
func TestNextKeysAreNewMemory(t *testing.T) {
	s := "get a b\n"
	first, _ := wire.Next(s)
	first.Keys[0] = "z"
	_ = append(first.Keys[:1], "y")
	wantNext(t, s, api.Request{Kind: api.Get, Keys: []string{"a", "b"}}, len(s))
}

// P1.5
func TestNextLinesThatBringNoValue(t *testing.T) {
	for _, s := range []string{
		"set a 0 0\n", "set a 0 2\n", "set a 0 0 2 3\n", "set a 0 0 2 \n", "set a b 0 0 2\n", "set a  0 0 2\n", "set a 0 0 2 noreply noreply\n", "set a 0 0 2 quiet\n",
		"set a x 0 2\n", "set a 0 x 2\n", "set a 0 0 x\n", "set a -1 0 2\n", "set a 0 -1 2\n", "set a 0 0 -2\n", "set a 00 0 2\n", "set a 0 00 2\n", "set a 0 0 02\n", "set a  0 2\n",
		"set a 0 1099511627777 2\n", "cas a 0 0 2\n", "cas a 0 0 2 x\n", "cas a 0 0 2 noreply\n", "cas a 0 0 2 1099511627777\n", "cas a 0 0 2 01\n", "SET a 0 0 2\n",
	} {
		wantBadLine(t, s+"hi\n")
		wantBadLine(t, s)
	}
}

// P1.5
func TestNextValueOfAnyLine(t *testing.T) {
	for _, head := range []string{
		"set " + tooLong + " 0 0 ", "set  0 0 ", "add \x7f 0 0 ", "replace \x00 0 0 ", "append a\tb 0 0 ", "prepend \xff 0 0 ", "cas " + strings.Repeat("k", 200) + " 0 0 ",
		"set a 65536 0 ", "cas a 1099511627776 0 ", "add  65536 1099511627776 ",
	} {
		end := ""
		if strings.HasPrefix(head, "cas") {
			end = " 1"
		}
		for _, quiet := range []string{"", " noreply"} {
			line := head + "3" + end + quiet + "\n"
			wantNext(t, line+"a\nb\n", bad, len(line)+4)
			wantNext(t, line+"a\nb\nget a\n", bad, len(line)+4)
			wantNext(t, line+"a\nb", api.Request{}, 0)
			wantNext(t, line, api.Request{}, 0)
			wantNext(t, line+"a\nbc\n", bad, len(line))
			line = head + "201" + end + quiet + "\n"
			wantNext(t, line+hugeValue+"\n", bad, len(line))
		}
	}
}

// P1.4, P1.5: beyond MaxNumber flags are no number, so that the line brings no value.
func TestNextFlagsThatAreNoNumber(t *testing.T) {
	wantBadLine(t, "set a 1099511627777 0 2\nhi\n")
	wantBadLine(t, "set a 18446744073709551616 0 2\nhi\n")
}

// P1.5
func TestNextValueSizes(t *testing.T) {
	for _, n := range []int{0, 1, 2, 9, 10, api.MaxValue - 1, api.MaxValue} {
		r := api.Request{Kind: api.Set, Key: "a", Value: strings.Repeat("\n", n)}
		s, _ := wire.Encode(r)
		wantNext(t, s, r, len(s))
		wantNext(t, s[:len(s)-1], api.Request{}, 0)
		wantBadLine(t, s[:len(s)-1]+" ")
		wantBadLine(t, s[:len(s)-1]+"x\n")
	}
	for _, size := range []string{"201", "1000", "1099511627776", "1099511627777", "9223372036854775807", "18446744073709551616"} {
		wantBadLine(t, "set a 0 0 "+size+"\n")
		wantBadLine(t, "set a 0 0 "+size+"\n"+hugeValue+"\n")
	}
}

// FuzzNext: what holds of all bytes.
func FuzzNext(f *testing.F) {
	for _, c := range written {
		f.Add(c.text)
		f.Add(c.text + "x")
		f.Add(strings.Replace(c.text, " ", "  ", 1))
		f.Add(strings.Replace(c.text, "a", "", 1))
	}
	f.Add(strings.Repeat("x", api.MaxLine+1))
	f.Fuzz(func(t *testing.T, s string) {
		r, n := wire.Next(s)
		if n < 0 || n > len(s) {
			t.Fatalf("%q: %d bytes", s, n)
		}
		if n == 0 {
			if !reflect.DeepEqual(r, api.Request{}) {
				t.Fatalf("%q: %+v of no bytes", s, r)
			}
			return
		}
		if e := wire.Check(r); e != api.OK {
			t.Fatalf("%q: %+v: %v", s, r, e)
		}
		if r.Kind == api.Bad {
			if !reflect.DeepEqual(r, bad) {
				t.Fatalf("%q: %+v", s, r)
			}
			return
		}
		if back, e := wire.Encode(r); back != s[:n] || e != api.OK {
			t.Fatalf("%q: %+v is %q, %v", s, r, back, e)
		}
	})
}
