package tests

import (
	"math"
	"math/bits"
	"slices"
	"sync"
	"testing"

	"loop.example/fairbooks/impl"
)

// seenGrains has for each event a set of bits: those of all numbers of grains that some measures have on it.
type seenGrains []uint64

// grainsSeen tells by a list of all measures of so many worlds which numbers of grains those for which a test holds have on each event.
func grainsSeen(worlds int, holds func(m []int) bool) seenGrains {
	seen := make(seenGrains, countOfEvents[worlds])
	for _, m := range allMeasures[worlds] {
		if holds(m) {
			for event := range seen {
				seen[event] |= 1 << onEvent(m, event)
			}
		}
	}
	return seen
}

// fair tells whether there is some measure.
func (seen seenGrains) fair() bool {
	return seen[0] != 0
}

// least tells the least grains on an event, or -1.
func (seen seenGrains) least(event int) int {
	if !seen.fair() {
		return -1
	}
	return bits.TrailingZeros64(seen[event])
}

// most tells the most grains on an event, or -1.
func (seen seenGrains) most(event int) int {
	return bits.Len64(seen[event]) - 1
}

// boundCase has a book, and which numbers of grains the measures that fit it have.
type boundCase struct {
	worlds int
	book   []impl.Quote
	seenGrains
}

// boundsOf returns the case of a book.
func boundsOf(worlds int, book []impl.Quote) boundCase {
	return boundCase{worlds, book, grainsSeen(worlds, func(m []int) bool { return fitsBook(m, book) })}
}

// boundBooks returns the tested books of so many worlds; of four worlds, whose walks take long, all of at most one quote, and each fourth one of the others.
func boundBooks(worlds int) [][]impl.Quote {
	books := testedBooks(worlds)
	if worlds < 4 {
		return books
	}
	var list [][]impl.Quote
	for i, book := range books {
		if i <= len(quotesOf(worlds)) || i%4 == 0 {
			list = append(list, book)
		}
	}
	for _, sides := range []int{3, 5, 6} {
		// By two quotes some events have only even grains, by three quotes they have odd ones that are no price.
		list = append(list, []impl.Quote{{Event: sides, Price: 3}, {Event: 9, Price: 2}, {Event: 15, Price: 6}}, []impl.Quote{{Event: 3, Price: 3}, {Event: 5, Price: 3}, {Event: sides, Price: 3}})
	}
	return list
}

// boundCases returns the books of 1..4 worlds whose bounds are tested.
var boundCases = sync.OnceValue(func() []boundCase {
	var list []boundCase
	for worlds := 1; worlds <= 4; worlds++ {
		for _, book := range boundBooks(worlds) {
			list = append(list, boundsOf(worlds, book))
		}
	}
	return list
})

// pinned tells what PinnedOk has to report.
func (c boundCase) pinned(event int) bool {
	return bits.OnesCount64(c.seenGrains[event]) == 1
}

// further tells what FurtherOk has to report of a valid quote.
func (c boundCase) further(q impl.Quote) bool {
	return c.seenGrains[q.Event]>>(6*q.Price)&1 == 1
}

// events returns the events that are tested for the book.
func (c boundCase) events(draw func(below int) int) []int {
	var quoted []int
	for _, q := range c.book {
		quoted = append(quoted, q.Event)
	}
	return someEvents(draw, c.worlds, quoted)
}

// someEvents returns all events of at most three worlds, and of four some given ones, their others, never and always, and two drawn ones.
func someEvents(draw func(below int) int, worlds int, given []int) []int {
	count := countOfEvents[worlds]
	var list []int
	if worlds < 4 {
		for event := range count {
			list = append(list, event)
		}
		return list
	}
	list = append(list, 0, count-1, draw(count), draw(count))
	for _, event := range given {
		list = append(list, event, count-1-event)
	}
	slices.Sort(list)
	return slices.Compact(list)
}

// eachBound calls a function with books and events.
func eachBound(seed uint64, do func(c boundCase, event int)) {
	draw := drawer(seed)
	for _, c := range boundCases() {
		for _, event := range c.events(draw) {
			do(c, event)
		}
	}
}

// checkNoBounds tests that nothing is told of an event, or of a book.
func checkNoBounds(t *testing.T, worlds int, book []impl.Quote, event int) {
	t.Helper()
	if least := impl.LeastOn(worlds, book, event); least != -1 {
		t.Fatalf("LeastOn(%d, %v, %d) = %d", worlds, book, event, least)
	}
	if most := impl.MostOn(worlds, book, event); most != -1 {
		t.Fatalf("MostOn(%d, %v, %d) = %d", worlds, book, event, most)
	}
	if impl.PinnedOk(worlds, book, event) {
		t.Fatalf("PinnedOk(%d, %v, %d) = true", worlds, book, event)
	}
}

func TestBoundsOfSomeEvents(t *testing.T) {
	half := []impl.Quote{{Event: 3, Price: 3}}
	two := []impl.Quote{{Event: 3, Price: 4}, {Event: 6, Price: 4}}
	sides := []impl.Quote{{Event: 3, Price: 3}, {Event: 5, Price: 3}}
	nines := []impl.Quote{{Event: 3, Price: 3}, {Event: 5, Price: 3}, {Event: 6, Price: 3}}
	for _, c := range []struct {
		worlds      int
		book        []impl.Quote
		event       int
		least, most int
	}{
		{3, half, 0, 0, 0},
		{3, half, 1, 0, 18},
		{3, half, 2, 0, 18},
		{3, half, 3, 18, 18},
		{3, half, 4, 18, 18},
		{3, half, 5, 18, 36},
		{3, half, 6, 18, 36},
		{3, half, 7, 36, 36},
		{3, half, 8, -1, -1},
		{3, half, -1, -1, -1},
		{2, half, 3, -1, -1}, // of two worlds 3 is always, and not at half of the whole
		{1, half, 0, -1, -1},
		{4, half, 8, 0, 18},
		{4, half, 9, 0, 36},
		{1, nil, 0, 0, 0},
		{1, nil, 1, 36, 36},
		{1, nil, 2, -1, -1},
		{1, []impl.Quote{{Event: 1, Price: 6}}, 1, 36, 36},
		{1, []impl.Quote{{Event: 1, Price: 6}}, 0, 0, 0},
		{1, []impl.Quote{{Event: 1, Price: 5}}, 1, -1, -1},
		{2, nil, 1, 0, 36},
		{4, nil, 7, 0, 36},
		{4, []impl.Quote{}, 8, 0, 36},
		{4, nil, 15, 36, 36},
		{4, nil, 0, 0, 0},
		{4, nil, 16, -1, -1},
		{0, nil, 0, -1, -1},
		{5, nil, 0, -1, -1},
		{4, []impl.Quote{{Event: 1, Price: 0}}, 1, 0, 0},
		{4, []impl.Quote{{Event: 1, Price: 0}}, 14, 36, 36},
		{4, []impl.Quote{{Event: 1, Price: 6}}, 2, 0, 0},
		{4, []impl.Quote{{Event: 1, Price: 6}}, 3, 36, 36},
		{4, []impl.Quote{{Event: 0, Price: 0}, {Event: 15, Price: 6}}, 1, 0, 36},
		{4, []impl.Quote{{Event: 0, Price: 1}}, 1, -1, -1},
		{4, []impl.Quote{{Event: 15, Price: 5}}, 15, -1, -1},
		{3, two, 1, 12, 12}, // each world is pinned by the quotes of two
		{3, two, 2, 12, 12},
		{3, two, 4, 12, 12},
		{4, two, 1, 0, 12},
		{4, two, 2, 12, 24},
		{4, two, 8, 0, 12},
		{4, two, 5, 0, 24},
		{4, two, 12, 12, 12},
		{4, sides, 1, 0, 18},
		{4, sides, 9, 0, 36}, // the worlds 0 and 3 have as many grains each
		{4, sides, 7, 18, 36},
		{4, nines, 1, 9, 9},
		{4, nines, 8, 9, 9},
		{4, nines, 9, 18, 18},
		{4, nines, 7, 27, 27},
		{4, []impl.Quote{{Event: 1, Price: 1}, {Event: 2, Price: 2}, {Event: 4, Price: 3}}, 8, 0, 0},
		{4, []impl.Quote{{Event: 1, Price: 1}, {Event: 2, Price: 2}, {Event: 4, Price: 4}}, 8, -1, -1},
		{4, append(slices.Clone(nines), impl.Quote{Event: 15, Price: 6}), 1, -1, -1}, // one quote too many
		{4, []impl.Quote{{Event: 1, Price: 7}}, 1, -1, -1},
		{4, []impl.Quote{{Event: 16, Price: 3}}, 1, -1, -1},
	} {
		least, most := impl.LeastOn(c.worlds, c.book, c.event), impl.MostOn(c.worlds, c.book, c.event)
		if least != c.least || most != c.most {
			t.Errorf("%d worlds: by %v there are on %d from %d to %d, not from %d to %d", c.worlds, c.book, c.event, least, most, c.least, c.most)
		}
		if got, want := impl.PinnedOk(c.worlds, c.book, c.event), c.least == c.most && c.least != -1; got != want {
			t.Errorf("PinnedOk(%d, %v, %d) = %t", c.worlds, c.book, c.event, got)
		}
	}
}

func TestPromise31BoundsOfAnEventTellThoseOfItsOther(t *testing.T) {
	open, shut, unfair := 0, 0, 0
	eachBound(31, func(c boundCase, event int) {
		least, most := impl.LeastOn(c.worlds, c.book, event), impl.MostOn(c.worlds, c.book, event)
		if least != c.least(event) || most != c.most(event) {
			t.Fatalf("%d worlds: by %v there are on %d from %d to %d, not from %d to %d", c.worlds, c.book, event, least, most, c.least(event), c.most(event))
		}
		if fair := impl.FairOk(c.worlds, c.book); fair != (least != -1) || fair != (most != -1) {
			t.Fatalf("%d worlds: %v is fair: %t, but there are on %d from %d to %d", c.worlds, c.book, fair, event, least, most)
		}
		if least == -1 {
			unfair++
			return
		}
		if other := impl.MostOn(c.worlds, c.book, impl.NotEvent(c.worlds, event)); least+other != impl.Grains {
			t.Fatalf("%d worlds: by %v there are on %d at least %d, but on its other at most %d", c.worlds, c.book, event, least, other)
		}
		if event == countOfEvents[c.worlds]-1 && least != impl.Grains || event == 0 && most != 0 {
			t.Fatalf("%d worlds: by %v there are on %d from %d to %d", c.worlds, c.book, event, least, most)
		}
		if least < most {
			open++
		} else {
			shut++
		}
	})
	if open < 1000 || shut < 1000 || unfair < 1000 {
		t.Errorf("%d bounds differ, %d are the same, and %d are none", open, shut, unfair)
	}
}

// TestNoBoundsOfOthers: nothing is told of events that are none, and by books that are none.
func TestNoBoundsOfOthers(t *testing.T) {
	for _, worlds := range worldNumbers {
		for _, event := range eventNumbers() {
			if isEvent(worlds, event) {
				continue
			}
			checkNoBounds(t, worlds, nil, event)
			checkNoBounds(t, worlds, []impl.Quote{{}}, event)
			checkNoBounds(t, worlds, []impl.Quote{{Event: 1, Price: 6}}, event)
			checkNoBounds(t, worlds, []impl.Quote{{Event: 1, Price: 6}, {}, {Event: 1, Price: 6}}, event)
		}
	}
	eachInvalidBook(func(worlds int, book []impl.Quote) {
		for _, event := range []int{0, 1, 3, 15} {
			checkNoBounds(t, worlds, book, event)
		}
	})
	for _, number := range []int{math.MinInt, math.MaxInt} {
		checkNoBounds(t, number, nil, number)
		checkNoBounds(t, 4, []impl.Quote{{Event: number, Price: number}}, 1)
		checkNoBounds(t, 4, []impl.Quote{{Event: 1, Price: number}}, 1)
	}
}

func TestPromise32WhatIsImpliedHasNoFewer(t *testing.T) {
	draw, more, fewer := drawer(132), 0, 0
	eachBound(32, func(c boundCase, event int) {
		if !c.fair() {
			return
		}
		drawn := draw(countOfEvents[c.worlds])
		most, other, both := impl.MostOn(c.worlds, c.book, event), impl.MostOn(c.worlds, c.book, drawn), impl.MostOn(c.worlds, c.book, event|drawn)
		if both != c.most(event|drawn) || both < most || both > most+other {
			t.Fatalf("%d worlds: by %v there are at most %d on %d, %d on %d, and %d on both together", c.worlds, c.book, most, event, other, drawn, both)
		}
		if !impl.ImpliesOk(c.worlds, event, event|drawn) {
			t.Fatalf("%d worlds: %d does not imply %d", c.worlds, event, event|drawn)
		}
		least := impl.LeastOn(c.worlds, c.book, event)
		if most < least {
			t.Fatalf("%d worlds: by %v there are at least %d on %d, and at most %d", c.worlds, c.book, least, event, most)
		}
		if implied := impl.LeastOn(c.worlds, c.book, event|drawn); implied < least {
			t.Fatalf("%d worlds: by %v there are at least %d on %d, but %d on %d", c.worlds, c.book, least, event, implied, event|drawn)
		}
		if both > most {
			more++
		}
		if both < most+other {
			fewer++
		}
	})
	if more < 500 || fewer < 500 {
		t.Errorf("together %d have more than the first, and %d fewer than both", more, fewer)
	}
	for _, worlds := range worldNumbers {
		if countOfEvents[worlds] == 0 {
			checkNoBounds(t, worlds, nil, 0)
			checkNoBounds(t, worlds, []impl.Quote{{}}, 1)
		}
	}
}

func TestFurtherQuotesOfSomeBooks(t *testing.T) {
	half := []impl.Quote{{Event: 3, Price: 3}}
	sides := []impl.Quote{{Event: 3, Price: 3}, {Event: 5, Price: 3}}
	nines := []impl.Quote{{Event: 3, Price: 3}, {Event: 5, Price: 3}, {Event: 6, Price: 3}}
	full := []impl.Quote{{Event: 3, Price: 3}, {Event: 0, Price: 0}, {Event: 15, Price: 6}}
	for _, c := range []struct {
		worlds int
		book   []impl.Quote
		q      impl.Quote
		want   bool
	}{
		{3, half, impl.Quote{Event: 1, Price: 0}, true},
		{3, half, impl.Quote{Event: 1, Price: 2}, true},
		{3, half, impl.Quote{Event: 1, Price: 3}, true},
		{3, half, impl.Quote{Event: 1, Price: 4}, false},
		{3, half, impl.Quote{Event: 1, Price: 6}, false},
		{3, half, impl.Quote{Event: 5, Price: 2}, false},
		{3, half, impl.Quote{Event: 5, Price: 3}, true},
		{3, half, impl.Quote{Event: 5, Price: 6}, true},
		{3, half, impl.Quote{Event: 5, Price: 7}, false},
		{3, half, impl.Quote{Event: 3, Price: 3}, true},
		{3, half, impl.Quote{Event: 3, Price: 2}, false},
		{3, half, impl.Quote{Event: 4, Price: 3}, true},
		{3, half, impl.Quote{Event: 4, Price: 4}, false},
		{3, half, impl.Quote{}, true},
		{3, half, impl.Quote{Event: 0, Price: 1}, false},
		{3, half, impl.Quote{Event: 7, Price: 6}, true},
		{3, half, impl.Quote{Event: 7, Price: 5}, false},
		{3, half, impl.Quote{Event: 8, Price: 0}, false},
		{3, half, impl.Quote{Event: 1, Price: -1}, false},
		{3, half, impl.Quote{Event: -1, Price: 1}, false},
		{1, nil, impl.Quote{Event: 1, Price: 6}, true},
		{1, nil, impl.Quote{Event: 1, Price: 0}, false},
		{1, nil, impl.Quote{Event: 0, Price: 0}, true},
		{1, nil, impl.Quote{Event: 2, Price: 0}, false},
		{4, nil, impl.Quote{Event: 8, Price: 6}, true},
		{4, []impl.Quote{}, impl.Quote{Event: 8, Price: 0}, true},
		{0, nil, impl.Quote{}, false},
		{5, nil, impl.Quote{}, false},
		{4, []impl.Quote{{Event: 0, Price: 1}}, impl.Quote{Event: 0, Price: 1}, false},
		{4, []impl.Quote{{Event: 0, Price: 1}}, impl.Quote{}, false},
		{4, []impl.Quote{{Event: 15, Price: 5}}, impl.Quote{Event: 1, Price: 1}, false},
		{4, sides, impl.Quote{Event: 9, Price: 1}, true},
		{4, sides, impl.Quote{Event: 1, Price: 4}, false},
		// A book of MaxQuotes quotes may have a further one, though both together are no book.
		{4, full, impl.Quote{Event: 1, Price: 3}, true},
		{4, full, impl.Quote{Event: 1, Price: 4}, false},
		{4, full, impl.Quote{Event: 3, Price: 3}, true},
		{4, full, impl.Quote{}, true},
		{4, nines, impl.Quote{Event: 9, Price: 3}, true},
		{4, nines, impl.Quote{Event: 10, Price: 3}, true},
		{4, nines, impl.Quote{Event: 9, Price: 2}, false},
		{4, nines, impl.Quote{Event: 1, Price: 1}, false}, // there are 9 on world 0
		{4, nines, impl.Quote{Event: 1, Price: 2}, false},
		{4, nines, impl.Quote{Event: 15, Price: 6}, true},
		{4, append(slices.Clone(full), impl.Quote{}), impl.Quote{}, false},
	} {
		if got := impl.FurtherOk(c.worlds, c.book, c.q); got != c.want {
			t.Errorf("FurtherOk(%d, %v, %v) = %t", c.worlds, c.book, c.q, got)
		}
	}
}

func TestPromise33AFurtherPriceIsFairJustBetweenItsBounds(t *testing.T) {
	between, past := map[int]int{}, map[int]int{}
	eachBound(33, func(c boundCase, event int) {
		least, most := impl.LeastOn(c.worlds, c.book, event), impl.MostOn(c.worlds, c.book, event)
		for _, price := range prices {
			q := impl.Quote{Event: event, Price: price}
			got := impl.FurtherOk(c.worlds, c.book, q)
			if got != c.further(q) || got != (c.fair() && 6*price >= least && 6*price <= most) {
				t.Fatalf("FurtherOk(%d, %v, %v) = %t, but there are from %d to %d", c.worlds, c.book, q, got, least, most)
			}
			if got {
				between[len(c.book)]++
			} else if c.fair() {
				past[len(c.book)]++
			}
			if further := append(slices.Clone(c.book), q); len(further) <= impl.MaxQuotes && got != impl.FairOk(c.worlds, further) {
				t.Fatalf("FurtherOk(%d, %v, %v) = %t, but not so FairOk of all together", c.worlds, c.book, q, got)
			}
			if c.worlds == 4 && !c.fair() {
				break // one price is enough where there are no measures
			}
		}
	})
	for quotes := range 4 {
		if between[quotes] < 40 || past[quotes] < 40 {
			t.Errorf("books of %d quotes: %d further prices are between the bounds, %d past them", quotes, between[quotes], past[quotes])
		}
	}
}

// TestNoFurtherQuotes: quotes that are none, at fair books of all lengths, and any quotes at books that are none.
func TestNoFurtherQuotes(t *testing.T) {
	for _, worlds := range worldNumbers {
		for _, bad := range badQuotes(worlds) {
			for quotes := range 4 {
				if book := make([]impl.Quote, quotes); impl.FurtherOk(worlds, book, bad) {
					t.Fatalf("FurtherOk(%d, %v, %v) = true", worlds, book, bad)
				}
			}
		}
	}
	eachInvalidBook(func(worlds int, book []impl.Quote) {
		for _, q := range []impl.Quote{{}, {Event: 1, Price: 2}, {Event: 1, Price: 6}} {
			if impl.FurtherOk(worlds, book, q) {
				t.Fatalf("FurtherOk(%d, %v, %v) = true", worlds, book, q)
			}
		}
	})
}

func TestPromise34QuotedEventsArePinned(t *testing.T) {
	quoted, all := 0, 0
	eachBound(34, func(c boundCase, event int) {
		if got := impl.PinnedOk(c.worlds, c.book, event); got != c.pinned(event) {
			t.Fatalf("PinnedOk(%d, %v, %d) = %t", c.worlds, c.book, event, got)
		}
	})
	for _, c := range boundCases() {
		for _, q := range c.book {
			if fair := impl.FairOk(c.worlds, c.book); fair != impl.PinnedOk(c.worlds, c.book, q.Event) || fair != impl.PinnedOk(c.worlds, c.book, impl.NotEvent(c.worlds, q.Event)) {
				t.Fatalf("%d worlds: %v is fair: %t, but %d is not pinned just so, or its other", c.worlds, c.book, fair, q.Event)
			} else if fair {
				quoted++
			}
		}
		pinned := 0
		for world := range c.worlds {
			if impl.PinnedOk(c.worlds, c.book, 1<<world) {
				pinned++
			}
		}
		if one := impl.CountMeasures(c.worlds, c.book) == 1; one != (pinned == c.worlds) {
			t.Fatalf("%d worlds: by %v %d are pinned, but one measure fits: %t", c.worlds, c.book, pinned, one)
		} else if one {
			all++
		}
	}
	if quoted < 1000 || all < 100 {
		t.Errorf("%d events are quoted and pinned, and in %d books all worlds", quoted, all)
	}
}

func TestWhatSomeGamblesBringAtLeast(t *testing.T) {
	half := []impl.Quote{{Event: 3, Price: 3}}
	for _, c := range []struct {
		worlds int
		book   []impl.Quote
		g      []int
		want   int
		ok     bool
	}{
		{3, half, []int{1, -1, 2}, 18, true},
		{3, half, []int{0, 0, 0}, 0, true},
		{3, half, []int{3, 3, -3}, 0, true},
		{3, half, []int{-3, -3, 3}, 0, true},
		{3, half, []int{1000, 1000, 1000}, 36000, true},
		{3, half, []int{-1000, -1000, -1000}, -36000, true},
		{3, half, []int{1000, -1000, 0}, -18000, true},
		{3, half, []int{-1000, 1000, 7}, -17874, true},
		{3, half, []int{1001, 0, 0}, 0, false},
		{3, half, []int{0, 0, -1001}, 0, false},
		{3, half, []int{1, 1}, 0, false},
		{3, half, []int{1, 1, 1, 1}, 0, false},
		{3, half, nil, 0, false},
		{2, half, []int{1, 1}, 0, false},
		{1, nil, []int{7}, 252, true},
		{1, nil, []int{-1000}, -36000, true},
		{1, nil, []int{1000}, 36000, true},
		{1, []impl.Quote{{Event: 1, Price: 6}}, []int{1}, 36, true},
		{1, []impl.Quote{{Event: 1, Price: 5}}, []int{1}, 0, false},
		{1, nil, []int{1, 1}, 0, false},
		{4, nil, []int{5, 6, 7, 4}, 144, true},
		{4, nil, []int{5, 6, -7, 4}, -252, true},
		{4, []impl.Quote{}, []int{1000, 1000, 1000, 1000}, 36000, true},
		{4, []impl.Quote{{Event: 1, Price: 2}}, []int{-1000, 1000, 1, 1000}, -11976, true},
		{4, []impl.Quote{{Event: 0, Price: 1}}, []int{1, 1, 1, 1}, 0, false},
		{4, []impl.Quote{{Event: 0, Price: 1}}, []int{-1, -1, -1, -1}, 0, false},
		{0, nil, nil, 0, false},
		{5, nil, []int{1, 1, 1, 1, 1}, 0, false},
		{4, make([]impl.Quote, 4), []int{1, 1, 1, 1}, 0, false},
		{4, nil, []int{math.MinInt, 0, 0, 0}, 0, false},
		{4, nil, []int{0, 0, 0, math.MaxInt}, 0, false},
	} {
		if got, ok := impl.LeastBrings(c.worlds, c.book, c.g); got != c.want || ok != c.ok {
			t.Errorf("LeastBrings(%d, %v, %v) = %d, %t", c.worlds, c.book, c.g, got, ok)
		}
	}
}

// leastByAll tells by a list of measures what LeastBrings has to return.
func leastByAll(list [][]int, g []int) (int, bool) {
	var brings []int
	for _, m := range list {
		sum := 0
		for world, grains := range m {
			sum += grains * g[world]
		}
		brings = append(brings, sum)
	}
	if len(brings) == 0 {
		return 0, false
	}
	return slices.Min(brings), true
}

// boundGambles returns gambles of so many worlds: of nothing, at the bounds, such that lose in some worlds, in one or in all, and drawn ones.
func boundGambles(draw func(below int) int, worlds int) [][]int {
	list := [][]int{make([]int, worlds)}
	for _, amount := range []int{-1000, -1, 1, 1000} {
		list = append(list, slices.Repeat([]int{amount}, worlds))
		one := make([]int, worlds)
		one[draw(worlds)] = amount
		list = append(list, one)
	}
	for _, most := range []int{1, 3, 1000} {
		list = append(list, drawGamble(draw, worlds, most))
	}
	if worlds == 4 {
		return [][]int{list[0], list[1+draw(8)], list[9], list[11]}
	}
	return list
}

func TestPromise35AGambleBringsAtLeastWhatItIsWorst(t *testing.T) {
	draw, told, above := drawer(35), 0, 0
	for _, c := range boundCases() {
		list := fittingMeasures(c.worlds, c.book)
		for _, g := range boundGambles(draw, c.worlds) {
			got, ok := impl.LeastBrings(c.worlds, c.book, g)
			want, wantOk := leastByAll(list, g)
			if ok != wantOk || got != want || ok != impl.FairOk(c.worlds, c.book) {
				t.Fatalf("LeastBrings(%d, %v, %v) = %d, %t, not %d, %t", c.worlds, c.book, g, got, ok, want, wantOk)
			}
			worst, _ := impl.WorstOf(g)
			if !ok {
				continue
			}
			told++
			if got < impl.Grains*worst {
				t.Fatalf("LeastBrings(%d, %v, %v) = %d, but it is at worst %d", c.worlds, c.book, g, got, worst)
			}
			if got > impl.Grains*worst {
				above++
			}
		}
		for _, q := range c.book {
			for _, stake := range []int{1, 1 + draw(9), -1 - draw(9)} {
				gain := impl.GainOf(c.worlds, q, stake)
				if got, ok := impl.LeastBrings(c.worlds, c.book, gain); got != 0 || ok != c.fair() {
					t.Fatalf("LeastBrings(%d, %v, %v) = %d, %t, for the bet of %v at the stake %d", c.worlds, c.book, gain, got, ok, q, stake)
				}
			}
		}
	}
	if told < 1000 || above < 500 {
		t.Errorf("of %d gambles it is told, of %d of them above the worst", told, above)
	}
}

// TestNothingIsToldOfOtherGambles: gambles that are none, or of fewer or more worlds, and gambles at books that are none.
func TestNothingIsToldOfOtherGambles(t *testing.T) {
	checkNone := func(worlds int, book []impl.Quote, g []int) {
		t.Helper()
		if got, ok := impl.LeastBrings(worlds, book, g); ok || got != 0 {
			t.Fatalf("LeastBrings(%d, %v, %v) = %d, %t", worlds, book, g, got, ok)
		}
	}
	for _, bad := range badGambles() {
		for worlds := range 6 {
			checkNone(worlds, nil, bad)
			checkNone(worlds, make([]impl.Quote, 3), bad)
		}
		checkNone(len(bad), nil, bad)
	}
	for _, worlds := range worldNumbers {
		for length := range 6 {
			if length != worlds || countOfEvents[worlds] == 0 {
				for _, amount := range []int{-1, 0, 1000} {
					checkNone(worlds, nil, slices.Repeat([]int{amount}, length))
					checkNone(worlds, []impl.Quote{{}}, slices.Repeat([]int{amount}, length))
				}
			}
		}
	}
	eachInvalidBook(func(worlds int, book []impl.Quote) {
		for _, g := range [][]int{nil, {1}, {-1, 1}, {0, 0, 0}, {-1000, 3, 2, 1000}, {1, 1, 1, 1, 1}} {
			checkNone(worlds, book, g)
		}
	})
}

func TestPromise36BoundsOfEventsAreBoundsOfGambles(t *testing.T) {
	eachBound(36, func(c boundCase, event int) {
		g := make([]int, c.worlds)
		for world, on := range setOf(c.worlds, event) {
			if on {
				g[world] = 1
			}
		}
		other, _ := impl.TimesGamble(g, -1)
		least, ok := impl.LeastBrings(c.worlds, c.book, g)
		turned, turnedOk := impl.LeastBrings(c.worlds, c.book, other)
		if ok != c.fair() || turnedOk != ok {
			t.Fatalf("%d worlds: by %v it is told what %v brings: %t, and its other side: %t", c.worlds, c.book, g, ok, turnedOk)
		}
		if !ok {
			if least != 0 || turned != 0 {
				t.Fatalf("%d worlds: by %v, which is not fair, %v brings %d, and its other side %d", c.worlds, c.book, g, least, turned)
			}
			return
		}
		if least != c.least(event) || least != impl.LeastOn(c.worlds, c.book, event) {
			t.Fatalf("LeastBrings(%d, %v, %v) = %d, but there are on %d at least %d", c.worlds, c.book, g, least, event, c.least(event))
		}
		if turned != -c.most(event) || turned != -impl.MostOn(c.worlds, c.book, event) {
			t.Fatalf("LeastBrings(%d, %v, %v) = %d, but there are on %d at most %d", c.worlds, c.book, other, turned, event, c.most(event))
		}
	})
	for _, worlds := range worldNumbers {
		for _, g := range [][]int{{1}, {1, 0}, {1, 0, 1}, {0, 1, 1, 0}, {1, 1, 0, 0, 1}} {
			got, ok := impl.LeastBrings(worlds, nil, g)
			if valid := countOfEvents[worlds] > 0 && worlds == len(g); ok != valid || !ok && got != 0 {
				t.Errorf("LeastBrings(%d, nothing, %v) = %d, %t", worlds, g, got, ok)
			}
		}
	}
}

// TestBoundsOnlyRead: no function of the chapter writes to a book or to a gamble, or to the room behind them, also not for calls that have no result.
func TestBoundsOnlyRead(t *testing.T) {
	for _, quotes := range [][]impl.Quote{
		{{Event: 1, Price: 2}, {Event: 0, Price: 0}, {Event: 1, Price: 2}, {Event: 3, Price: 6}, {Event: -1, Price: 9}},
		{{Event: 1, Price: 6}, {Event: 1, Price: 6}, {Event: 1, Price: 6}, {Event: 1, Price: 6}, {Event: 7, Price: 7}},
		{{Event: 0, Price: 6}, {Event: 1, Price: 5}, {Event: 2, Price: 4}, {Event: 2, Price: 1}, {Event: 7, Price: 7}},
	} {
		for _, amounts := range [][]int{{3, -2, 5, 0, 1, 9}, {1001, 1, 1, 1, 1, 9}} {
			book, g := slices.Clone(quotes), slices.Clone(amounts)
			for worlds := range 6 {
				for length := range 6 {
					for _, event := range []int{-1, 0, 1, 3} {
						impl.LeastOn(worlds, book[:length], event)
						impl.MostOn(worlds, book[:length], event)
						impl.PinnedOk(worlds, book[:length], event)
						impl.FurtherOk(worlds, book[:length], impl.Quote{Event: event, Price: 2})
						impl.FurtherOk(worlds, book[:length], impl.Quote{Event: event})
					}
					for count := range 6 {
						impl.LeastBrings(worlds, book[:length], g[:count])
					}
				}
			}
			if !slices.Equal(book, quotes) || !slices.Equal(g, amounts) {
				t.Errorf("%v or %v was written to: %v %v", quotes, amounts, book, g)
			}
		}
	}
}
