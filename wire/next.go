package wire

import (
	"strings"

	"dovecote/api"
	"dovecote/decimal"
)

// behindName: how many words there must be behind the name, by kinds; of a Get Check tells it.
var behindName = [api.Bad]int{
	api.Set:     4,
	api.Add:     4,
	api.Replace: 4,
	api.Append:  4,
	api.Prepend: 4,
	api.Cas:     5,
	api.Delete:  1,
	api.Incr:    2,
	api.Decr:    2,
	api.Touch:   2,
}

// Next request of bytes: it, and how many of them it has; 0: it is not whole yet.
func Next(s string) (api.Request, int) {
	end := strings.IndexByte(s, '\n')
	if end < 0 {
		if len(s) > api.MaxLine {
			return badOf(len(s))
		}
		return api.Request{}, 0
	}
	if end > api.MaxLine {
		return badOf(end + 1)
	}
	// The answer must not share memory with what was handed in.
	r, size, ok := readLine(strings.Clone(s[:end]))
	if !ok {
		return badOf(end + 1)
	}
	if bringsValue(r.Kind) {
		return withValue(r, s, end+1, size)
	}
	return checked(r, end+1)
}

func badOf(bytes int) (api.Request, int) { return api.Request{Kind: api.Bad}, bytes }

// checked comes last, since a line whose key or flags are wrong still takes its value away.
func checked(r api.Request, bytes int) (api.Request, int) {
	if Check(r) != api.OK {
		return badOf(bytes)
	}
	return r, bytes
}

func withValue(r api.Request, s string, start, size int) (api.Request, int) {
	if size > api.MaxValue {
		return badOf(start)
	}
	end := start + size
	if len(s) <= end {
		return api.Request{}, 0
	}
	if s[end] != '\n' {
		return badOf(start)
	}
	r.Value = strings.Clone(s[start:end])
	return checked(r, end+1)
}

// readLine: what a line says, and how many bytes its value has; whether its keys and flags may be is left to Check.
func readLine(line string) (api.Request, int, bool) {
	words := strings.Split(line, " ")
	r := api.Request{Kind: kindOf(words[0])}
	words = words[1:]
	switch r.Kind {
	case 0:
		return api.Request{}, 0, false
	case api.Get:
		r.Keys = words
		return r, 0, true
	}
	must := behindName[r.Kind]
	if len(words) == must+1 && words[must] == quietWord {
		r.Quiet = true
		words = words[:must]
	}
	if len(words) != must {
		return api.Request{}, 0, false
	}
	if hasKey(r.Kind) {
		r.Key = words[0]
		words = words[1:]
	}
	l, ok := numbers(words)
	if !ok {
		return api.Request{}, 0, false
	}
	r, size := withNumbers(r, l)
	return r, size, true
}

// kindOf a name; 0: it is none.
func kindOf(name string) int {
	for kind := api.Get; kind < api.Bad; kind++ {
		if names[kind] == name {
			return kind
		}
	}
	return 0
}

// withNumbers: as many as behindName asks for.
func withNumbers(r api.Request, l []int) (api.Request, int) {
	size := 0
	if bringsValue(r.Kind) {
		r.Flags, r.Exp, size = l[0], l[1], l[2]
		l = l[3:]
	}
	if hasN(r.Kind) {
		r.N = l[0]
	}
	if r.Kind == api.Touch {
		r.Exp = l[0]
	}
	return r, size
}

func numbers(words []string) ([]int, bool) {
	var l []int
	for _, w := range words {
		n, ok := decimal.Parse(w)
		if !ok {
			return nil, false
		}
		l = append(l, n)
	}
	return l, true
}
