package wire_test

import (
	"strings"
	"testing"

	"dovecote/api"
	"dovecote/wire"
)

// P1.1
func TestKeyByLength(t *testing.T) {
	for n := range 2 * api.MaxKey {
		want := n >= 1 && n <= api.MaxKey
		if got := wire.Key(strings.Repeat("k", n)); got != want {
			t.Errorf("Key of %d bytes: %v, want %v", n, got, want)
		}
	}
}

func TestKeyByBytes(t *testing.T) {
	for b := range 256 {
		want := b >= 33 && b <= 126
		for _, s := range []string{string([]byte{byte(b)}), "ab" + string([]byte{byte(b)}), string([]byte{byte(b)}) + "ab"} {
			if got := wire.Key(s); got != want {
				t.Errorf("Key(%q): %v, want %v", s, got, want)
			}
		}
	}
}

func TestKeyCountsBytesNotLetters(t *testing.T) {
	for _, s := range []string{"ä", "käse", "\u2028", "a\xc3", strings.Repeat("ä", api.MaxKey)} {
		if wire.Key(s) {
			t.Errorf("Key(%q): true", s)
		}
	}
}
