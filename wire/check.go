package wire

import (
	"slices"

	"dovecote/api"
)

// Check a request.
func Check(r api.Request) api.Errno {
	switch {
	case r.Kind < api.Get || r.Kind > api.Bad:
		return api.ErrKind
	case !keysFit(r) || !fieldsFit(r):
		return api.ErrForm
	case outside(r.Flags, api.MaxFlags) || outside(r.Exp, api.MaxNumber) || outside(r.N, api.MaxNumber):
		return api.ErrRange
	case len(r.Value) > api.MaxValue:
		return api.ErrSize
	}
	return api.OK
}

func keysFit(r api.Request) bool {
	if hasKey(r.Kind) {
		return len(r.Keys) == 0 && Key(r.Key)
	}
	if r.Key != "" {
		return false
	}
	if r.Kind != api.Get {
		return len(r.Keys) == 0
	}
	if len(r.Keys) < 1 || len(r.Keys) > api.MaxKeys {
		return false
	}
	return !slices.ContainsFunc(r.Keys, func(k string) bool { return !Key(k) })
}

// fieldsFit: has it nothing that its kind has no use for?
func fieldsFit(r api.Request) bool {
	switch {
	case !bringsValue(r.Kind) && (r.Flags != 0 || r.Value != ""):
		return false
	case !hasExp(r.Kind) && r.Exp != 0:
		return false
	case !hasN(r.Kind) && r.N != 0:
		return false
	}
	return mayBeQuiet(r.Kind) || !r.Quiet
}

func outside(n, most int) bool { return n < 0 || n > most }
