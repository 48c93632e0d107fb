package wire

import (
	"strconv"
	"strings"

	"dovecote/api"
)

// Encode a request, that is none of Bad.
func Encode(r api.Request) (string, api.Errno) {
	if e := Check(r); e != api.OK {
		return "", e
	}
	if r.Kind == api.Bad {
		return "", api.ErrKind
	}
	out := strings.Join(lineWords(r), " ") + "\n"
	if bringsValue(r.Kind) {
		out += r.Value + "\n"
	}
	return out, api.OK
}

func lineWords(r api.Request) []string {
	words := append([]string{names[r.Kind]}, r.Keys...)
	if hasKey(r.Kind) {
		words = append(words, r.Key)
	}
	if bringsValue(r.Kind) {
		words = append(words, strconv.Itoa(r.Flags), strconv.Itoa(r.Exp), strconv.Itoa(len(r.Value)))
	}
	if hasN(r.Kind) {
		words = append(words, strconv.Itoa(r.N))
	}
	if r.Kind == api.Touch {
		words = append(words, strconv.Itoa(r.Exp))
	}
	if r.Quiet {
		words = append(words, quietWord)
	}
	return words
}
