package snap

const (
	sealBytes = 4
	sealPrime = 65521
)

// seal of bytes: a sum of them, and one of what that was byte by byte, so that bytes which change places are seen too.
func seal(b []byte) []byte {
	first, second := 1, 0
	for _, c := range b {
		first = (first + int(c)) % sealPrime
		second = (second + first) % sealPrime
	}
	return []byte{byte(second >> 8), byte(second), byte(first >> 8), byte(first)}
}
