package snap

import "dovecote/api"

// more: what a byte of a number has beside seven bits of it, if another byte follows.
const more = 128

// appendStore to bytes: a store that may be, so that no number is below 0.
func appendStore(b []byte, s api.Store) []byte {
	b = appendNumbers(b, s.Clock, s.Cas, s.Uses, s.Most)
	b = appendNumbers(b, s.Held[:]...)
	b = appendFlash(b, s.Flash)
	b = appendNumbers(b, len(s.Items))
	for _, it := range s.Items {
		b = appendItem(b, it)
	}
	return b
}

// appendFlash: the Numbers of pages are not told, since Next tells them.
func appendFlash(b []byte, f api.Flash) []byte {
	b = appendNumbers(b, f.Most, f.Next, len(f.Pages))
	for _, p := range f.Pages {
		b = appendText(b, string(p.Bytes))
	}
	return b
}

func appendItem(b []byte, it api.Item) []byte {
	b = appendText(b, it.Key)
	b = appendNumbers(b, it.Flags, it.Until, it.Cas, it.Used)
	if it.Far {
		return appendNumbers(b, 1, it.Where.Page, it.Where.At)
	}
	return appendText(appendNumbers(b, 0), it.Value)
}

func appendText(b []byte, s string) []byte {
	return append(appendNumbers(b, len(s)), s...)
}

func appendNumbers(b []byte, numbers ...int) []byte {
	for _, n := range numbers {
		for n >= more {
			b = append(b, byte(n%more+more))
			n /= more
		}
		b = append(b, byte(n))
	}
	return b
}
