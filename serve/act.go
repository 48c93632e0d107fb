package serve

import (
	"dovecote/api"
	"dovecote/snap"
	"dovecote/store"
	"dovecote/wire"
)

func (v *server) act(a api.Act) api.Errno {
	switch a.Kind {
	case api.Deliver:
		return v.deliver(a.Conn, a.Data)
	case api.Tick:
		return v.tick(a.N)
	case api.Close:
		return v.hangUp(a.Conn)
	case api.Save:
		return v.save()
	case api.Restart:
		return v.restart()
	}
	return api.ErrKind
}

func isConn(n int) bool { return n >= 0 && n < api.MaxConns }

// deliver bytes one by one: whether a line is too long hangs on how many bytes wait when it is looked at, and that must not hang on how they are cut into acts.
func (v *server) deliver(conn int, data string) api.Errno {
	if !isConn(conn) {
		return api.ErrRange
	}
	for i := range len(data) {
		v.waits[conn] += data[i : i+1]
		if e := v.answerWhole(conn); e != api.OK {
			return e
		}
	}
	return api.OK
}

// answerWhole: all requests that wait on a connection and are whole. One more byte may make several: where a value does not end, its line is one, and the value is read as lines.
func (v *server) answerWhole(conn int) api.Errno {
	for {
		r, bytes := wire.Next(v.waits[conn])
		if bytes == 0 {
			return api.OK
		}
		v.waits[conn] = v.waits[conn][bytes:]
		if e := v.answer(conn, r); e != api.OK {
			return e
		}
	}
}

func (v *server) answer(conn int, r api.Request) api.Errno {
	s, reply, e := store.Do(v.store, r)
	if e != api.OK {
		return e
	}
	v.store = s
	if r.Quiet && !isTrouble(reply.Kind) {
		return api.OK
	}
	text, e := wire.Print(reply)
	v.told[conn] = append(v.told[conn], text...)
	return e
}

// isTrouble: is a reply of this kind told in any case?
func isTrouble(kind int) bool {
	return kind == api.Failed || kind == api.NoRoom || kind == api.NoCount
}

func (v *server) tick(n int) api.Errno {
	s, e := store.Tick(v.store, n)
	v.store = s
	return e
}

func (v *server) hangUp(conn int) api.Errno {
	if !isConn(conn) {
		return api.ErrRange
	}
	v.waits[conn] = ""
	return api.OK
}

func (v *server) save() api.Errno {
	b, e := snap.Encode(v.store)
	v.saved = b
	return e
}

func (v *server) restart() api.Errno {
	s, e := v.lastSaved()
	v.store = s
	v.waits = [api.MaxConns]string{}
	return e
}

func (v *server) lastSaved() (api.Store, api.Errno) {
	if len(v.saved) == 0 {
		return store.New(v.setup)
	}
	return snap.Decode(v.saved)
}
