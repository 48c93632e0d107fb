package serve_test

import (
	"slices"
	"strings"
	"testing"

	"dovecote/api"
)

// byteByByte: the same bytes, an act each.
func byteByByte(conn int, data string) []api.Act {
	var l []api.Act
	for i := range len(data) {
		l = append(l, deliver(conn, data[i:i+1]))
	}
	return l
}

// cutOnce: the same bytes in two acts, with others between.
func cutOnce(conn int, data string, at int, between ...api.Act) []api.Act {
	return slices.Concat(script(deliver(conn, data[:at])), between, script(deliver(conn, data[at:])))
}

// wantToldHoweverCut: on the first connection.
func wantToldHoweverCut(t *testing.T, data, want string) {
	t.Helper()
	wantTold(t, script(deliver(0, data)), want)
	for at := range len(data) + 1 {
		wantTold(t, cutOnce(0, data, at), want)
		wantTold(t, cutOnce(0, data, at, save, tick(1), hangUp(1)), want)
	}
	if len(data) <= api.MaxActs {
		wantTold(t, byteByByte(0, data), want)
	}
}

// P5.2
func TestDeliverWholeRequests(t *testing.T) {
	for _, c := range []struct{ data, want string }{
		{"", ""},
		{"\n", "ERROR\n"},
		{"\n\n", "ERROR\nERROR\n"},
		{"get a\n", "END\n"},
		{"get a\nget a\n", "END\nEND\n"},
		{"set a 1 0 3\n1\n2\nget a b a\n", "STORED\nVALUE a 1 3 1\n1\n2\nVALUE a 1 3 1\n1\n2\nEND\n"},
		{"set a 0 0 0\n\nadd a 0 0 0\n\n", "STORED\nNOT_STORED\n"},
		{"set a 0 0 1\n7\nincr a 5\ndecr a 20\ntouch a 4\ncas a 0 0 1 1\nx\n", "STORED\n12\n0\nTOUCHED\nEXISTS\n"},
		{"delete a\nreplace a 0 0 1\nx\nGET a\n", "NOT_FOUND\nNOT_STORED\nERROR\n"},
	} {
		wantToldHoweverCut(t, c.data, c.want)
	}
}

func TestDeliverTellsAsSoonAsThereIsARequest(t *testing.T) {
	data := "set a 0 0 5\nget a\nget a\nset b 0 0 2\nhi!\nflush\n"
	ends := map[int]string{
		len("set a 0 0 5\nget a\n"):                                 "STORED\n",
		len("set a 0 0 5\nget a\nget a\n"):                          "VALUE a 0 5 1\nget a\nEND\n",
		len("set a 0 0 5\nget a\nget a\nset b 0 0 2\nhi!"):          "ERROR\n",
		len("set a 0 0 5\nget a\nget a\nset b 0 0 2\nhi!\n"):        "ERROR\n",
		len("set a 0 0 5\nget a\nget a\nset b 0 0 2\nhi!\nflush\n"): "OK\n",
	}
	want := ""
	for n := range len(data) + 1 {
		want += ends[n]
		wantTold(t, script(deliver(2, data[:n])), "", "", want)
	}
}

// A value that does not end where it should makes its line a Bad, and is read as lines itself, as many as there are.
func TestDeliverReadsOn(t *testing.T) {
	for _, c := range []struct{ data, want string }{
		{"set a 0 0 2\nhi!", "ERROR\n"},
		{"set a 0 0 2\nhi!\n", "ERROR\nERROR\n"},
		{"set a 0 0 2\n\n\n!", "ERROR\nERROR\nERROR\n"},
		{"set a 0 0 6\nget a\n!", "ERROR\nEND\n"},
		{"set a 0 0 12\nget a\nflush\n!", "ERROR\nEND\nOK\n"},
		{"set a 0 0 15\nset b 0 0 1\nx\n\nget b\n", "ERROR\nSTORED\nERROR\nVALUE b 0 1 1\nx\nEND\n"},
		{"set a 0 0 14\nset a 0 0 2\n\n\n!", "ERROR\nERROR\nERROR\nERROR\n"},
		{"set a 0 0 201\nget a\n", "ERROR\nEND\n"},
		{"set \x01 0 0 6\nget a\n\nget a\n", "ERROR\nEND\n"},
		{"set a 65536 0 6\nget a\n\nget a\n", "ERROR\nEND\n"},
	} {
		wantToldHoweverCut(t, c.data, c.want)
	}
}

func TestDeliverLongLines(t *testing.T) {
	x := func(n int) string { return strings.Repeat("x", n) }
	for _, c := range []struct{ data, want string }{
		{x(300), ""},
		{x(300) + "\n", "ERROR\n"},
		{x(301), "ERROR\n"},
		{x(301) + "\n", "ERROR\nERROR\n"},
		{x(301) + "get a\n", "ERROR\nEND\n"},
		{x(601) + "\n", "ERROR\nERROR\n"},
		{x(602) + "\n", "ERROR\nERROR\nERROR\n"},
		{"get" + strings.Repeat(" a", 10) + "\n" + x(295) + "get a\n", "END\nERROR\n"},
		{"get" + strings.Repeat(" a", 10) + "\n" + x(296) + "get a\n", "END\nERROR\nERROR\n"},
	} {
		wantToldHoweverCut(t, c.data, c.want)
	}
	wantTold(t, script(deliver(0, x(2000)), deliver(0, x(106)), deliver(0, x(1))), strings.Repeat("ERROR\n", 7))
	wantTold(t, script(deliver(0, x(2000)), deliver(0, x(106))), strings.Repeat("ERROR\n", 6))
}

// The longest line and value that are no Bad wait as a whole.
func TestDeliverLongValues(t *testing.T) {
	v := strings.Repeat("v", api.MaxValue)
	key := strings.Repeat("k", api.MaxKey)
	wantToldHoweverCut(t, "set "+key+" 65535 1099511627776 200\n"+v+"\nget "+key+"\n", "STORED\nVALUE "+key+" 65535 200 1\n"+v+"\nEND\n")
}

func TestDeliverKeepsConnectionsApart(t *testing.T) {
	data := "set a 0 0 2\nhi\nget a\n"
	told := "STORED\nVALUE a 0 2 1\nhi\nEND\n"
	var l []api.Act
	for i := range len(data) {
		l = append(l, deliver(0, data[i:i+1]), deliver(3, "get b\n"[i%6:i%6+1]))
	}
	wantTold(t, l, told, "", "", "END\nEND\nEND\n")

	l = nil
	for _, part := range []string{"se", "t a 0 0", " 1\n", "x", "\nget a", "\n"} {
		for conn := range api.MaxConns {
			l = append(l, deliver(conn, part))
		}
	}
	got := "STORED\nVALUE a 0 1 4\nx\nEND\n"
	wantTold(t, l, got, got, got, got)
}

// P5.3
func TestQuiet(t *testing.T) {
	full := "set full 0 0 200 noreply\n" + strings.Repeat("v", 200) + "\n"
	for _, c := range []struct{ line, told, quiet string }{
		{"set a 0 0 1%\nx\n", "STORED\n", ""},
		{"add one 0 0 1%\nx\n", "NOT_STORED\n", ""},
		{"replace a 0 0 1%\nx\n", "NOT_STORED\n", ""},
		{"append a 0 0 1%\nx\n", "NOT_STORED\n", ""},
		{"append one 0 0 1%\nx\n", "STORED\n", ""},
		{"prepend one 0 0 1%\nx\n", "STORED\n", ""},
		{"cas one 0 0 1 9%\nx\n", "EXISTS\n", ""},
		{"cas a 0 0 1 9%\nx\n", "NOT_FOUND\n", ""},
		{"delete a%\n", "NOT_FOUND\n", ""},
		{"delete one%\n", "DELETED\n", ""},
		{"incr one 2%\n", "3\n", ""},
		{"decr one 2%\n", "0\n", ""},
		{"incr a 1%\n", "NOT_FOUND\n", ""},
		{"touch one 2%\n", "TOUCHED\n", ""},
		{"touch a 2%\n", "NOT_FOUND\n", ""},
		{"flush%\n", "OK\n", ""},
		{"incr word 1%\n", "CLIENT_ERROR no number\n", "CLIENT_ERROR no number\n"},
		{"decr word 1%\n", "CLIENT_ERROR no number\n", "CLIENT_ERROR no number\n"},
		{"set big 0 0 100%\n" + strings.Repeat("v", 100) + "\n", "SERVER_ERROR no room\n", "SERVER_ERROR no room\n"},
		{"bogus%\n", "ERROR\n", "ERROR\n"},
		{"delete%\n", "ERROR\n", "NOT_FOUND\n"}, // of the key "noreply"
		{"get a%\n", "END\n", "END\n"},
		{"touch a -1%\n", "ERROR\n", "ERROR\n"},
		{"set a 0 0 201%\n", "ERROR\n", "ERROR\n"},
		{"set a 0 0 1%\nxx", "ERROR\n", "ERROR\n"},
	} {
		first := deliver(1, "set one 0 0 1 noreply\n1\nset word 0 0 1 noreply\nw\n")
		loud := deliver(0, strings.Replace(c.line, "%", "", 1))
		quiet := deliver(0, strings.Replace(c.line, "%", " noreply", 1))
		wantTold(t, script(first, loud), c.told)
		wantTold(t, script(first, quiet), c.quiet)
	}
	wantTold(t, script(deliver(0, full+"append full 0 0 1 noreply\nx\n")), "SERVER_ERROR no room\n")
}

func TestQuietRequestsAreDone(t *testing.T) {
	lines := "set a 7 0 1\n1\nincr a 4\nset b 0 0 1\nx\nappend b 0 0 1\ny\ndelete b\ntouch a 9\n"
	quiet := "set a 7 0 1 noreply\n1\nincr a 4 noreply\nset b 0 0 1 noreply\nx\nappend b 0 0 1 noreply\ny\ndelete b noreply\ntouch a 9 noreply\n"
	_, s := run(t, small, script(deliver(0, lines)))
	told, q := run(t, small, script(deliver(0, quiet)))
	if told[0] != "" || !sameStore(s, q) {
		t.Errorf("quiet requests: told %q, the store is %+v, want %+v", told, q, s)
	}
	wantTold(t, script(deliver(0, quiet+"get a b\n")), "VALUE a 7 1 2\n5\nEND\n")
}
