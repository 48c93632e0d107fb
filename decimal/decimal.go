// Package decimal: numbers as requests and values tell them.
package decimal

import "dovecote/api"

// Parse a text: the number that it is, without needless 0s, up to MaxNumber; false: it is none.
func Parse(s string) (int, bool) {
	if s == "" || s[0] == '0' && len(s) > 1 {
		return 0, false
	}
	n := 0
	for _, b := range []byte(s) {
		if b < '0' || b > '9' {
			return 0, false
		}
		n = n*10 + int(b-'0')
		// Here, not behind the loop: a long text would wrap round.
		if n > api.MaxNumber {
			return 0, false
		}
	}
	return n, true
}
