package snap

import "dovecote/api"

const (
	numberBytes = 6 // of one number, at most
	numberBits  = 7 // of it in each byte
)

// reader of bytes. Behind the first thing that is wrong nothing is left to be read: what comes then is empty, and the first error stays.
type reader struct {
	left []byte
	e    api.Errno
}

func (r *reader) refuse(e api.Errno) {
	if r.e == api.OK {
		r.e = e
	}
	r.left = nil
}

// take so many bytes away.
func (r *reader) take(n int) []byte {
	if n > len(r.left) {
		r.refuse(api.ErrShort)
		return nil
	}
	b := r.left[:n]
	r.left = r.left[n:]
	return b
}

func (r *reader) number() int {
	n := 0
	// One byte more than there may be is asked for: without it there are no more than six, and the bytes end too early.
	for i := range numberBytes + 1 {
		b := r.take(1)
		if len(b) == 0 {
			return 0
		}
		// A 0 that ends more than one byte adds nothing: the number stands in fewer.
		if i == numberBytes || b[0] == 0 && i > 0 {
			break
		}
		n += int(b[0]%more) << (numberBits * i)
		if b[0] < more {
			return n
		}
	}
	r.refuse(api.ErrForm)
	return 0
}

// count of what may be there so many times at most.
func (r *reader) count(most int) int {
	n := r.number()
	if n > most {
		r.refuse(api.ErrSize)
		return 0
	}
	return n
}

// text of so many bytes at most; they are those that are read, no copy.
func (r *reader) text(most int) []byte { return r.take(r.count(most)) }

// readAll bytes, those between mark and seal, as a store.
func readAll(b []byte) (api.Store, api.Errno) {
	r := reader{left: b}
	s := r.store()
	if len(r.left) > 0 {
		r.refuse(api.ErrForm)
	}
	return s, r.e
}

func (r *reader) store() api.Store {
	var s api.Store
	s.Clock = r.number()
	s.Cas = r.number()
	s.Uses = r.number()
	s.Most = r.number()
	for class := range s.Held {
		s.Held[class] = r.number()
	}
	s.Flash = r.flash()
	s.Items = make([]api.Item, r.count(api.MaxItems))
	for i := range s.Items {
		s.Items[i] = r.item()
	}
	return s
}

func (r *reader) flash() api.Flash {
	var f api.Flash
	f.Most = r.number()
	f.Next = r.number()
	f.Pages = make([]api.Page, r.count(api.MaxFlash))
	first := f.Next - len(f.Pages)
	for i := range f.Pages {
		f.Pages[i] = api.Page{Number: first + i, Bytes: append([]byte(nil), r.text(api.PageBytes)...)}
	}
	return f
}

func (r *reader) item() api.Item {
	var it api.Item
	it.Key = string(r.text(api.MaxKey))
	it.Flags = r.number()
	it.Until = r.number()
	it.Cas = r.number()
	it.Used = r.number()
	it.Far = r.yes()
	if it.Far {
		it.Where.Page = r.number()
		it.Where.At = r.number()
		return it
	}
	it.Value = string(r.text(api.MaxValue))
	return it
}

// yes is 1, no is 0.
func (r *reader) yes() bool {
	n := r.number()
	if n > 1 {
		r.refuse(api.ErrForm)
	}
	return n == 1
}
