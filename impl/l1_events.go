package impl

import (
	"cmp"
	"math/bits"
	"slices"
)

// MaxWorlds is the maximum number of worlds.
const MaxWorlds = 4

// maxParting is the maximum number of events that part the worlds.
const maxParting = 8

// EventOk reports whether a number tells an event of so many worlds, in 1..MaxWorlds: to it each world of the event adds 1 for the world 0, 2 for 1, and so on, each next one twice as much; from 0 on, and less than 2 to the power of the number of worlds.
func EventOk(worlds int, event int) bool {
	return worldsOk(worlds) && event >= 0 && event <= allWorlds(worlds)
}

// NotEvent returns the event that comes true just if an event (EventOk) does not; -1 for others.
func NotEvent(worlds int, event int) int {
	if !EventOk(worlds, event) {
		return -1
	}
	return allWorlds(worlds) &^ event
}

// ImpliesOk reports whether a second event comes true whenever a first one does (EventOk); false for others.
func ImpliesOk(worlds int, a int, b int) bool {
	return EventOk(worlds, a) && EventOk(worlds, b) && a&^b == 0
}

// ApartOk reports whether two events never come true together (EventOk); false for others.
func ApartOk(worlds int, a int, b int) bool {
	return EventOk(worlds, a) && EventOk(worlds, b) && a&b == 0
}

// PartsOf returns the parts of so many worlds, in 1..MaxWorlds, by at most 8 events (EventOk): events of one world or more, in the ascending order of the least world of each, so that two worlds are in the same part just if they are in the same ones of these events; nil if one of these is none, and for others.
func PartsOf(worlds int, events []int) []int {
	if !worldsOk(worlds) || len(events) > maxParting {
		return nil
	}
	for _, event := range events {
		if !EventOk(worlds, event) {
			return nil
		}
	}
	var parts []int
	for world := range worlds {
		parts = insertBy(parts, partOf(worlds, events, world), leastWorld)
	}
	return parts
}

// worldsOk reports whether there may be so many worlds.
func worldsOk(worlds int) bool {
	return worlds >= 1 && worlds <= MaxWorlds
}

// isWorld reports whether a number is one of so many worlds, from 0 on.
func isWorld(worlds int, world int) bool {
	return world >= 0 && world < worlds
}

// allWorlds returns the event of all of so many worlds, which are in 1..MaxWorlds.
func allWorlds(worlds int) int {
	return 1<<worlds - 1
}

// hasWorld reports whether an event comes true in a world.
func hasWorld(event int, world int) bool {
	return event>>world&1 == 1
}

// leastWorld returns the least world of an event that has one. No two parts have the same one, as no two of them have a world in common.
func leastWorld(event int) int {
	return bits.TrailingZeros(uint(event))
}

// partOf returns the part of a world: all worlds with the same key.
func partOf(worlds int, events []int, world int) int {
	key, part := keyOf(events, world), 0
	for other := range worlds {
		if keyOf(events, other) == key {
			part |= 1 << other
		}
	}
	return part
}

// keyOf returns a number that is the same for two worlds just if they are in the same ones of the events.
func keyOf(events []int, world int) int {
	key := 0
	for i, event := range events {
		if hasWorld(event, world) {
			key |= 1 << i
		}
	}
	return key
}

// insertBy puts an item into a row that ascends by rank. An item whose rank is there already is left out, so that the row goes on to ascend.
func insertBy[T any, R cmp.Ordered](row []T, item T, rank func(T) R) []T {
	at, found := slices.BinarySearchFunc(row, rank(item), func(other T, r R) int {
		return cmp.Compare(rank(other), r)
	})
	if found {
		return row
	}
	return slices.Insert(row, at, item)
}
