package store

import (
	"slices"

	"dovecote/api"
	"dovecote/flash"
)

// put an item instead of that with its key; false: there is no room for it.
func put(s *api.Store, it api.Item) bool {
	takeAway(s, it.Key)
	if s.Cas == api.MaxNumber || !makeRoom(s, classOf(it)) {
		return false
	}
	s.Cas++
	it.Cas = s.Cas
	ask(s, &it)
	s.Items = slices.Insert(s.Items, placeOf(s.Items, it.Key), it)
	return true
}

// makeRoom for one more item of a class. What had to be done for that stays done, even if there is none in the end.
func makeRoom(s *api.Store, class int) bool {
	if !chunkIsFree(*s, class) && !holdPage(s, class) && !pushOut(s, class) {
		return false
	}
	return len(s.Items) < api.MaxItems
}

func chunkIsFree(s api.Store, class int) bool {
	return inMemory(s.Items)[class] < chunksHeld(s, class)
}

// holdPage: one more for a class; false: all are held.
func holdPage(s *api.Store, class int) bool {
	if heldInAll(*s) >= s.Most {
		return false
	}
	s.Held[class]++
	return true
}

// pushOut the item of a class in memory that was asked longest ago, to flash or for good; false: there is none.
func pushOut(s *api.Store, class int) bool {
	i := askedLongestAgo(s.Items, class)
	if i < 0 {
		return false
	}
	if !moveToFlash(s, i) {
		takeAway(s, s.Items[i].Key)
	}
	return true
}

// askedLongestAgo: where that one of a class in memory stands; -1: there is none.
func askedLongestAgo(items []api.Item, class int) int {
	first := -1
	for i, it := range items {
		if it.Far || classOf(it) != class {
			continue
		}
		if first < 0 || it.Used < items[first].Used {
			first = i
		}
	}
	return first
}

// moveToFlash: the value of an item; false: it is too short, or flash does not take it.
func moveToFlash(s *api.Store, i int) bool {
	it := &s.Items[i]
	if len(it.Value) < api.FarValue {
		return false
	}
	f, at, gone, e := flash.Append(s.Flash, it.Value)
	if e != api.OK {
		return false
	}
	s.Flash = f
	it.Value, it.Far, it.Where = "", true, at
	s.Items = slices.DeleteFunc(s.Items, func(it api.Item) bool { return it.Far && it.Where.Page == gone })
	return true
}
