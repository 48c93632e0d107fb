package wire

import (
	"slices"
	"strconv"
	"strings"

	"dovecote/api"
)

// says: the last line of replies, by their kinds; that of a Number is its number.
var says = [api.NoCount + 1]string{
	api.Values:  "END",
	api.Stored:  "STORED",
	api.Not:     "NOT_STORED",
	api.Exists:  "EXISTS",
	api.Missing: "NOT_FOUND",
	api.Gone:    "DELETED",
	api.Touched: "TOUCHED",
	api.Done:    "OK",
	api.Failed:  "ERROR",
	api.NoRoom:  "SERVER_ERROR no room",
	api.NoCount: "CLIENT_ERROR no number",
}

// Print a reply.
func Print(r api.Reply) (string, api.Errno) {
	if r.Kind < api.Values || r.Kind > api.NoCount {
		return "", api.ErrKind
	}
	if !replyFits(r) {
		return "", api.ErrForm
	}
	if r.Kind == api.Number {
		return strconv.Itoa(r.N) + "\n", api.OK
	}
	out := ""
	for _, h := range r.Hits {
		out += printHit(h)
	}
	return out + says[r.Kind] + "\n", api.OK
}

func replyFits(r api.Reply) bool {
	switch {
	case r.Kind != api.Values && len(r.Hits) > 0:
		return false
	case r.Kind != api.Number && r.N != 0:
		return false
	case len(r.Hits) > api.MaxKeys:
		return false
	}
	return !slices.ContainsFunc(r.Hits, func(h api.Hit) bool { return !Key(h.Key) || len(h.Value) > api.MaxValue })
}

func printHit(h api.Hit) string {
	words := []string{"VALUE", h.Key, strconv.Itoa(h.Flags), strconv.Itoa(len(h.Value)), strconv.Itoa(h.Cas)}
	return strings.Join(words, " ") + "\n" + h.Value + "\n"
}
