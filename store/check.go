package store

import (
	"dovecote/api"
	"dovecote/flash"
	"dovecote/record"
	"dovecote/wire"
)

// Check a store.
func Check(s api.Store) api.Errno {
	if !countsFit(s) || !heldFits(s) || flash.Check(s.Flash) != api.OK || !itemsFit(s) || !chunksFit(s) {
		return api.ErrState
	}
	return api.OK
}

func countsFit(s api.Store) bool {
	switch {
	case !within(s.Clock, 0, api.MaxNumber):
		return false
	case !within(s.Cas, 0, api.MaxNumber):
		return false
	case !within(s.Uses, 0, api.MaxNumber):
		return false
	}
	return within(s.Most, 0, api.MaxPages)
}

func heldFits(s api.Store) bool {
	for _, n := range s.Held {
		if !within(n, 0, s.Most) {
			return false
		}
	}
	return heldInAll(s) <= s.Most
}

func heldInAll(s api.Store) int {
	sum := 0
	for _, n := range s.Held {
		sum += n
	}
	return sum
}

// itemsFit, on flash that may be: do they, but for how many are in memory?
func itemsFit(s api.Store) bool {
	if len(s.Items) > api.MaxItems {
		return false
	}
	for i, it := range s.Items {
		if i > 0 && it.Key <= s.Items[i-1].Key {
			return false
		}
		if !fieldsFit(s, it) || !valueFits(s.Flash, it) {
			return false
		}
	}
	return true
}

func fieldsFit(s api.Store, it api.Item) bool {
	switch {
	case !wire.Key(it.Key):
		return false
	case !within(it.Flags, 0, api.MaxFlags):
		return false
	case !within(it.Until, 0, api.MaxNumber):
		return false
	case !within(it.Cas, 1, s.Cas):
		return false
	}
	return within(it.Used, 1, s.Uses)
}

func valueFits(f api.Flash, it api.Item) bool {
	if !it.Far {
		return len(it.Value) <= api.MaxValue && it.Where == api.Place{}
	}
	value, ok := farValue(f, it.Where)
	return it.Value == "" && ok && len(value) >= api.FarValue
}

// farValue at a place on flash that may be: flash's Read would check all of its pages again for each item.
func farValue(f api.Flash, at api.Place) (string, bool) {
	value, e := record.Find(f.Pages, at)
	return value, e == api.OK
}

// chunksFit: have all items that are in memory, which fit else, a chunk?
func chunksFit(s api.Store) bool {
	for class, n := range inMemory(s.Items) {
		if n > chunksHeld(s, class) {
			return false
		}
	}
	return true
}

// inMemory: how many items are, by classes.
func inMemory(items []api.Item) [4]int {
	var counts [4]int
	for _, it := range items {
		if !it.Far {
			counts[classOf(it)]++
		}
	}
	return counts
}

func classOf(it api.Item) int { return Class(len(it.Key), len(it.Value)) }

func chunksHeld(s api.Store, class int) int {
	return s.Held[class] * (api.PageBytes / chunks[class])
}
