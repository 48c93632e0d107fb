package store

import (
	"strconv"
	"strings"

	"dovecote/api"
	"dovecote/decimal"
)

// answer a request that may be, on a store that may be and is the caller's own: its lists are changed in place.
func answer(s *api.Store, r api.Request) api.Reply {
	switch r.Kind {
	case api.Get:
		return get(s, r.Keys)
	case api.Flush:
		s.Items, s.Flash.Pages = nil, nil
		return told(api.Done)
	case api.Bad:
		return told(api.Failed)
	}
	return answerOne(s, r)
}

func told(kind int) api.Reply { return api.Reply{Kind: kind} }

func get(s *api.Store, keys []string) api.Reply {
	reply := told(api.Values)
	for _, key := range keys {
		if i := find(s, key); i >= 0 {
			it := &s.Items[i]
			ask(s, it)
			reply.Hits = append(reply.Hits, api.Hit{Key: it.Key, Flags: it.Flags, Cas: it.Cas, Value: valueOf(s.Flash, *it)})
		}
	}
	return reply
}

// answerOne: a request for one key.
func answerOne(s *api.Store, r api.Request) api.Reply {
	i := find(s, r.Key)
	if kind := unmet(r.Kind, i >= 0); kind != 0 {
		return told(kind)
	}
	switch r.Kind {
	case api.Append, api.Prepend:
		return join(s, r, s.Items[i])
	case api.Cas:
		if s.Items[i].Cas != r.N {
			return told(api.Exists)
		}
	case api.Delete:
		takeAway(s, r.Key)
		return told(api.Gone)
	case api.Incr, api.Decr:
		return count(s, r, s.Items[i])
	case api.Touch:
		ask(s, &s.Items[i])
		s.Items[i].Until = until(s.Clock, r.Exp)
		return told(api.Touched)
	}
	return set(s, r)
}

// unmet: what is told if a request of this kind needs that its item is there, or that it is not, and it is otherwise; 0: it may go on.
func unmet(kind int, there bool) int {
	switch {
	case kind == api.Set:
		return 0
	case kind == api.Add && there:
		return api.Not
	case kind == api.Add || there:
		return 0
	case kind == api.Replace || kind == api.Append || kind == api.Prepend:
		return api.Not
	}
	return api.Missing
}

func set(s *api.Store, r api.Request) api.Reply {
	it := api.Item{Flags: r.Flags, Until: until(s.Clock, r.Exp)}
	return putValue(s, it, r.Key, r.Value, told(api.Stored))
}

// join the value of an item and that of a request.
func join(s *api.Store, r api.Request, old api.Item) api.Reply {
	value := valueOf(s.Flash, old) + r.Value
	if r.Kind == api.Prepend {
		value = r.Value + valueOf(s.Flash, old)
	}
	if len(value) > api.MaxValue {
		return told(api.NoRoom)
	}
	return putValue(s, old, r.Key, value, told(api.Stored))
}

// count the number that is an item's value up or down.
func count(s *api.Store, r api.Request, old api.Item) api.Reply {
	n, ok := decimal.Parse(valueOf(s.Flash, old))
	if !ok {
		return told(api.NoCount)
	}
	if r.Kind == api.Incr {
		n = min(n+r.N, api.MaxNumber)
	} else {
		n = max(n-r.N, 0)
	}
	return putValue(s, old, r.Key, strconv.Itoa(n), api.Reply{Kind: api.Number, N: n})
}

// putValue: an item with the Flags and Until of another one; what is told if there is room for it.
func putValue(s *api.Store, like api.Item, key, value string, stored api.Reply) api.Reply {
	// Copies of the texts: an answer shares no memory with what was handed in.
	it := api.Item{Key: strings.Clone(key), Flags: like.Flags, Until: like.Until, Value: strings.Clone(value)}
	if !put(s, it) {
		return told(api.NoRoom)
	}
	return stored
}
