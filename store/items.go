package store

import (
	"slices"
	"sort"

	"dovecote/api"
)

// find the item with a key: where it stands; -1: there is none. One whose time is over is taken away.
func find(s *api.Store, key string) int {
	i := placeOf(s.Items, key)
	if i == len(s.Items) || s.Items[i].Key != key {
		return -1
	}
	if u := s.Items[i].Until; u != 0 && u <= s.Clock {
		takeAway(s, key)
		return -1
	}
	return i
}

// placeOf a key among items: where the one with it stands, or would stand.
func placeOf(items []api.Item, key string) int {
	return sort.Search(len(items), func(i int) bool { return items[i].Key >= key })
}

func takeAway(s *api.Store, key string) {
	s.Items = slices.DeleteFunc(s.Items, func(it api.Item) bool { return it.Key == key })
}

// ask for an item: it was asked last of all.
func ask(s *api.Store, it *api.Item) {
	s.Uses++
	it.Used = s.Uses
}

// until which tick an item is there that is to be so for so many; 0: for ever.
func until(clock, ticks int) int {
	if ticks == 0 {
		return 0
	}
	return min(clock+ticks, api.MaxNumber)
}

func valueOf(f api.Flash, it api.Item) string {
	if !it.Far {
		return it.Value
	}
	value, _ := farValue(f, it.Where)
	return value
}
