// Package wire: requests and replies as bytes.
package wire

import (
	"slices"

	"dovecote/api"
)

// names of requests, by their kinds; a Bad has none.
var names = [api.Bad]string{
	api.Get:     "get",
	api.Set:     "set",
	api.Add:     "add",
	api.Replace: "replace",
	api.Append:  "append",
	api.Prepend: "prepend",
	api.Cas:     "cas",
	api.Delete:  "delete",
	api.Incr:    "incr",
	api.Decr:    "decr",
	api.Touch:   "touch",
	api.Flush:   "flush",
}

const quietWord = "noreply"

// Key: may it be one?
func Key(s string) bool {
	if len(s) < 1 || len(s) > api.MaxKey {
		return false
	}
	return !slices.ContainsFunc([]byte(s), func(b byte) bool { return b < 33 || b > 126 })
}

func bringsValue(kind int) bool { return kind >= api.Set && kind <= api.Cas }

func hasKey(kind int) bool { return kind >= api.Set && kind <= api.Touch }

func hasExp(kind int) bool { return bringsValue(kind) || kind == api.Touch }

func hasN(kind int) bool { return kind == api.Cas || kind == api.Incr || kind == api.Decr }

func mayBeQuiet(kind int) bool { return kind != api.Get && kind != api.Bad }
