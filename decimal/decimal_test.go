package decimal_test

import (
	"strconv"
	"strings"
	"testing"

	"dovecote/api"
	"dovecote/decimal"
)

// P1.4, P3.6: what is told is read again.
func TestParse(t *testing.T) {
	for _, n := range []int{0, 1, 9, 10, 12, 100, 65536, api.MaxNumber - 1, api.MaxNumber} {
		if got, ok := decimal.Parse(strconv.Itoa(n)); got != n || !ok {
			t.Errorf("Parse(%d): %d, %v", n, got, ok)
		}
	}
}

func TestParseRefuses(t *testing.T) {
	for _, s := range []string{
		"", " ", "a", "1a", "a1", "-1", "-0", "+1", "00", "01", "007", " 1", "1 ", "1\n", "1.0", "1e3", "0x1", "1_0",
		"\x00", "/", ":", "١", "²", "1099511627777", "18446744073709551616", "18446744073709551617",
		strings.Repeat("9", 200), "1" + strings.Repeat("0", 64),
	} {
		if n, ok := decimal.Parse(s); n != 0 || ok {
			t.Errorf("Parse(%q): %d, %v", s, n, ok)
		}
	}
}
