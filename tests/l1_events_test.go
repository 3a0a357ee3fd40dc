package tests

import (
	"math"
	"slices"
	"testing"

	"loop.example/fairbooks/impl"
)

// countOfEvents has, by the number of worlds, how many events there are; none for numbers of worlds that are not valid.
var countOfEvents = map[int]int{1: 2, 2: 4, 3: 8, 4: 16}

// worldNumbers has all valid numbers of worlds, and others around and far from them.
var worldNumbers = []int{math.MinInt, math.MinInt + 1, -64, -4, -1, 0, 1, 2, 3, 4, 5, 6, 31, 32, 63, 64, math.MaxInt - 1, math.MaxInt}

// eventNumbers has all events of four worlds, and others around and far from them.
func eventNumbers() []int {
	list := []int{math.MinInt, math.MinInt + 1, math.MinInt32, -17, -16, -15, -2, -1}
	for event := range 18 {
		list = append(list, event)
	}
	return append(list, 31, 32, 255, 1<<32, 1<<32+1, math.MaxInt32, math.MaxInt-1, math.MaxInt)
}

// isEvent tells by the table of counts what EventOk has to report.
func isEvent(worlds int, event int) bool {
	return 0 <= event && event < countOfEvents[worlds]
}

// setOf returns, for each world, whether an event has it.
func setOf(worlds int, event int) []bool {
	set := make([]bool, worlds)
	for world := range set {
		set[world] = event%2 == 1
		event /= 2
	}
	return set
}

// eachPair calls a function with all numbers of worlds and all pairs of numbers of events.
func eachPair(do func(worlds int, a int, b int)) {
	for _, worlds := range worldNumbers {
		for _, a := range eventNumbers() {
			for _, b := range eventNumbers() {
				do(worlds, a, b)
			}
		}
	}
}

func TestEventsAreNumbersOfSets(t *testing.T) {
	for _, worlds := range worldNumbers {
		for _, event := range eventNumbers() {
			if got := impl.EventOk(worlds, event); got != isEvent(worlds, event) {
				t.Errorf("EventOk(%d, %d) = %t", worlds, event, got)
			}
		}
	}
	if impl.MaxWorlds != 4 {
		t.Errorf("MaxWorlds = %d", impl.MaxWorlds)
	}
}

func TestPromise1NeverAndAlwaysAreEvents(t *testing.T) {
	for worlds := 1; worlds <= impl.MaxWorlds; worlds++ {
		always := countOfEvents[worlds] - 1
		if !impl.EventOk(worlds, 0) || !impl.EventOk(worlds, always) {
			t.Errorf("%d worlds: never or always is no event", worlds)
		}
		for _, event := range eventNumbers() {
			if impl.EventOk(worlds, event) != impl.EventOk(worlds, always-event) {
				t.Errorf("%d worlds: only one of %d and what lacks to it is an event", worlds, event)
			}
		}
	}
	for _, worlds := range []int{math.MinInt, -1, 0, 5, math.MaxInt} {
		if impl.EventOk(worlds, 0) || impl.EventOk(worlds, 1) || impl.EventOk(worlds, -1) {
			t.Errorf("%d worlds have an event", worlds)
		}
	}
}

func TestNotEventHasTheOtherWorlds(t *testing.T) {
	for _, worlds := range worldNumbers {
		for _, event := range eventNumbers() {
			got := impl.NotEvent(worlds, event)
			if !isEvent(worlds, event) {
				if got != -1 {
					t.Errorf("NotEvent(%d, %d) = %d, not -1", worlds, event, got)
				}
				continue
			}
			if !isEvent(worlds, got) {
				t.Errorf("NotEvent(%d, %d) = %d, which is no event", worlds, event, got)
				continue
			}
			other := setOf(worlds, got)
			for world, in := range setOf(worlds, event) {
				if in == other[world] {
					t.Errorf("NotEvent(%d, %d) = %d: world %d", worlds, event, got, world)
				}
			}
		}
	}
}

func TestPromise2NotTwiceIsAsBefore(t *testing.T) {
	for worlds := 1; worlds <= impl.MaxWorlds; worlds++ {
		for event := range countOfEvents[worlds] {
			not := impl.NotEvent(worlds, event)
			if twice := impl.NotEvent(worlds, not); twice != event {
				t.Errorf("%d worlds: not not %d = %d", worlds, event, twice)
			}
			if !impl.ApartOk(worlds, event, not) {
				t.Errorf("%d worlds: %d and its other %d are not apart", worlds, event, not)
			}
		}
		if never, always := 0, countOfEvents[worlds]-1; impl.NotEvent(worlds, never) != always || impl.NotEvent(worlds, always) != never {
			t.Errorf("%d worlds: never and always are not each other's other", worlds)
		}
	}
	for _, bad := range [][2]int{{0, 0}, {5, 0}, {-1, 0}, {1, 2}, {2, 4}, {3, 8}, {4, 16}, {4, -1}, {math.MaxInt, 0}, {math.MinInt, 0}, {4, math.MaxInt}, {4, math.MinInt}} {
		if got := impl.NotEvent(bad[0], bad[1]); got != -1 {
			t.Errorf("NotEvent(%d, %d) = %d, not -1", bad[0], bad[1], got)
		}
	}
}

func TestImpliesGoesByWorlds(t *testing.T) {
	eachPair(func(worlds int, a int, b int) {
		want := isEvent(worlds, a) && isEvent(worlds, b)
		if want {
			second := setOf(worlds, b)
			for world, in := range setOf(worlds, a) {
				want = want && (!in || second[world])
			}
		}
		if got := impl.ImpliesOk(worlds, a, b); got != want {
			t.Errorf("ImpliesOk(%d, %d, %d) = %t", worlds, a, b, got)
		}
	})
}

func TestPromise3WhatImpliesIsApartFromWhatIsNotImplied(t *testing.T) {
	eachPair(func(worlds int, a int, b int) {
		implies := impl.ImpliesOk(worlds, a, b)
		notA, notB := impl.NotEvent(worlds, a), impl.NotEvent(worlds, b)
		if implies != impl.ApartOk(worlds, a, notB) {
			t.Errorf("%d worlds: %d implies %d: %t, but is apart from its other: %t", worlds, a, b, implies, !implies)
		}
		if implies != impl.ImpliesOk(worlds, notB, notA) {
			t.Errorf("%d worlds: %d implies %d: %t, but not so for their others", worlds, a, b, implies)
		}
	})
	for worlds := 1; worlds <= impl.MaxWorlds; worlds++ {
		always := countOfEvents[worlds] - 1
		for event := range countOfEvents[worlds] {
			if !impl.ImpliesOk(worlds, 0, event) || !impl.ImpliesOk(worlds, event, always) || !impl.ImpliesOk(worlds, event, event) {
				t.Errorf("%d worlds: never, %d and always do not imply each other in this order", worlds, event)
			}
		}
		if impl.ImpliesOk(worlds, always, 0) {
			t.Errorf("%d worlds: always implies never", worlds)
		}
	}
}

func TestApartGoesByWorlds(t *testing.T) {
	eachPair(func(worlds int, a int, b int) {
		want := isEvent(worlds, a) && isEvent(worlds, b)
		if want {
			second := setOf(worlds, b)
			for world, in := range setOf(worlds, a) {
				want = want && !(in && second[world])
			}
		}
		if got := impl.ApartOk(worlds, a, b); got != want {
			t.Errorf("ApartOk(%d, %d, %d) = %t", worlds, a, b, got)
		}
	})
}

func TestPromise4ApartIsTheSameBothWays(t *testing.T) {
	eachPair(func(worlds int, a int, b int) {
		if apart := impl.ApartOk(worlds, a, b); apart != impl.ApartOk(worlds, b, a) {
			t.Errorf("ApartOk(%d, %d, %d) = %t, but not so for both exchanged", worlds, a, b, apart)
		}
	})
	for _, worlds := range worldNumbers {
		for _, event := range eventNumbers() {
			if apart := impl.ApartOk(worlds, event, event); apart != (event == 0 && countOfEvents[worlds] > 0) {
				t.Errorf("ApartOk(%d, %d, %d) = %t", worlds, event, event, apart)
			}
		}
	}
}

func TestPartsAreInTheirOrder(t *testing.T) {
	for _, c := range []struct {
		worlds int
		events []int
		want   []int
	}{
		{1, nil, []int{1}},
		{1, []int{}, []int{1}},
		{1, []int{0}, []int{1}},
		{1, []int{1}, []int{1}},
		{1, []int{0, 1, 0, 1, 0, 1, 0, 1}, []int{1}},
		{2, nil, []int{3}},
		{2, []int{1}, []int{1, 2}},
		{2, []int{2}, []int{1, 2}},
		{2, []int{3, 0}, []int{3}},
		{3, []int{2}, []int{5, 2}},
		{4, nil, []int{15}},
		{4, []int{0}, []int{15}},
		{4, []int{15}, []int{15}},
		{4, []int{0, 15}, []int{15}},
		{4, []int{6}, []int{9, 6}},
		{4, []int{9}, []int{9, 6}},
		{4, []int{9, 8}, []int{1, 6, 8}},
		{4, []int{8, 4}, []int{3, 4, 8}},
		{4, []int{2, 4}, []int{9, 2, 4}},
		{4, []int{5}, []int{5, 10}},
		{4, []int{3, 6}, []int{1, 2, 4, 8}},
		{4, []int{5, 5, 5, 5, 5, 5, 5, 5}, []int{5, 10}},
		{4, []int{5, 5, 5, 5, 5, 5, 5, 6}, []int{1, 2, 4, 8}},
		{4, []int{3, 0, 15, 3, 12, 3, 0, 2}, []int{1, 2, 12}},
	} {
		if got := impl.PartsOf(c.worlds, c.events); !slices.Equal(got, c.want) {
			t.Errorf("PartsOf(%d, %v) = %v, not %v", c.worlds, c.events, got, c.want)
		}
	}
}

func TestPartsOfOthersAreNone(t *testing.T) {
	check := func(worlds int, events []int) {
		t.Helper()
		if got := impl.PartsOf(worlds, events); len(got) != 0 {
			t.Errorf("PartsOf(%d, %v) = %v", worlds, events, got)
		}
	}
	for _, worlds := range worldNumbers {
		if countOfEvents[worlds] > 0 {
			continue
		}
		check(worlds, nil)
		check(worlds, []int{})
		check(worlds, []int{0})
		check(worlds, []int{1, 0})
	}
	for worlds := 1; worlds <= impl.MaxWorlds; worlds++ {
		check(worlds, make([]int, 9))
		check(worlds, []int{1, 1, 1, 1, 1, 1, 1, 1, 1})
		check(worlds, make([]int, 64))
		check(worlds, make([]int, 65))
		for _, event := range eventNumbers() {
			if isEvent(worlds, event) {
				continue
			}
			check(worlds, []int{event})
			check(worlds, []int{event, 1})
			check(worlds, []int{1, event})
			check(worlds, []int{0, 1, 0, 1, 0, 1, 0, event})
		}
	}
	check(4, []int{-1, -1, -1, -1, -1, -1, -1, -1, -1})
}

// checkParts tests what promise 5 says, and what PartsOf returns, for a valid number of worlds and valid events.
func checkParts(t *testing.T, worlds int, events []int) {
	t.Helper()
	parts := impl.PartsOf(worlds, events)
	home := make([]int, worlds)
	sum, least := 0, -1
	for i, part := range parts {
		if !impl.EventOk(worlds, part) || part == 0 {
			t.Fatalf("PartsOf(%d, %v) = %v: %d is no part", worlds, events, parts, part)
		}
		first := slices.Index(setOf(worlds, part), true)
		if first <= least {
			t.Fatalf("PartsOf(%d, %v) = %v: the order is another one", worlds, events, parts)
		}
		sum, least = sum+part, first
		for _, other := range parts[:i] {
			if !impl.ApartOk(worlds, part, other) {
				t.Fatalf("PartsOf(%d, %v) = %v: %d and %d are not apart", worlds, events, parts, other, part)
			}
		}
		for world, in := range setOf(worlds, part) {
			if in {
				home[world] = i
			}
		}
	}
	if sum != countOfEvents[worlds]-1 {
		t.Fatalf("PartsOf(%d, %v) = %v: together they are not all worlds", worlds, events, parts)
	}
	for _, event := range events {
		implying := 0
		for _, part := range parts {
			if impl.ImpliesOk(worlds, part, event) {
				implying += part
			}
		}
		if implying != event {
			t.Fatalf("PartsOf(%d, %v) = %v: %d is not the sum of the parts that imply it", worlds, events, parts, event)
		}
	}
	for a := range worlds {
		for b := range worlds {
			told := slices.ContainsFunc(events, func(event int) bool {
				set := setOf(worlds, event)
				return set[a] != set[b]
			})
			if told == (home[a] == home[b]) {
				t.Fatalf("PartsOf(%d, %v) = %v: worlds %d and %d", worlds, events, parts, a, b)
			}
		}
	}
}

func TestPromise5EventsAreMadeOfParts(t *testing.T) {
	for worlds := 1; worlds <= impl.MaxWorlds; worlds++ {
		count := countOfEvents[worlds]
		checkParts(t, worlds, nil)
		for a := range count {
			checkParts(t, worlds, []int{a})
			for b := range count {
				checkParts(t, worlds, []int{a, b})
				for c := range count {
					checkParts(t, worlds, []int{a, b, c})
				}
			}
		}
		drawn := 1
		for range 2000 {
			drawn = drawn * 75 % 65537
			events := make([]int, drawn%9)
			for i := range events {
				drawn = drawn * 75 % 65537
				events[i] = drawn / 16 % count
			}
			checkParts(t, worlds, events)
		}
	}
}

// TestEachOfEightEventsParts: which one of eight events tells two worlds apart makes no difference.
func TestEachOfEightEventsParts(t *testing.T) {
	for at := range 8 {
		events := make([]int, 8)
		events[at] = 4
		if got := impl.PartsOf(4, events); !slices.Equal(got, []int{11, 4}) {
			t.Errorf("PartsOf(4, %v) = %v", events, got)
		}
	}
}

func TestPartsAreNewMemory(t *testing.T) {
	room := []int{3, 6, 7, 7, 7, 7, 7, 7}
	events := room[:2]
	first := impl.PartsOf(4, events)
	second := impl.PartsOf(4, events)
	if !slices.Equal(room, []int{3, 6, 7, 7, 7, 7, 7, 7}) {
		t.Fatalf("the argument was written to: %v", room)
	}
	for i := range first[:cap(first)] {
		first[:cap(first)][i] = 99
	}
	if !slices.Equal(room, []int{3, 6, 7, 7, 7, 7, 7, 7}) || !slices.Equal(second, []int{1, 2, 4, 8}) {
		t.Fatalf("the result shares memory: %v %v", room, second)
	}
	if third := impl.PartsOf(4, events); !slices.Equal(third, []int{1, 2, 4, 8}) {
		t.Fatalf("a result was kept: %v", third)
	}
}
