package tests

import (
	"math"
	"slices"
	"testing"

	"loop.example/fairbooks/impl"
)

// waysToLay has, by the number of worlds, in how many ways all grains may be laid on them.
var waysToLay = map[int]int{1: 1, 2: 37, 3: 703, 4: 9139}

// allMeasures has, by the number of worlds, all measures in their order.
var allMeasures = map[int][][]int{1: laidOut(1, 36), 2: laidOut(2, 36), 3: laidOut(3, 36), 4: laidOut(4, 36)}

// laidOut returns all rows of so many worlds that have so many grains, those with fewer on a world first.
func laidOut(worlds int, grains int) [][]int {
	if worlds == 1 {
		return [][]int{{grains}}
	}
	var list [][]int
	for first := 0; first <= grains; first++ {
		for _, rest := range laidOut(worlds-1, grains-first) {
			list = append(list, append([]int{first}, rest...))
		}
	}
	return list
}

// isMeasure tells by going back to no grains what MeasureOk has to report.
func isMeasure(m []int) bool {
	left := 36
	for _, grains := range m {
		if grains < 0 || grains > 36 {
			return false
		}
		left -= grains
	}
	return left == 0 && slices.Contains([]int{1, 2, 3, 4}, len(m))
}

// onEvent tells by halving the number of the event how many grains of a measure are on it.
func onEvent(m []int, event int) int {
	grains := 0
	for _, on := range m {
		grains += event % 2 * on
		event /= 2
	}
	return grains
}

// fitsBook tells what FitsOk has to report of a measure and a book: a sixth of all grains is six.
func fitsBook(m []int, book []impl.Quote) bool {
	fitting := 0
	for _, q := range book {
		if onEvent(m, q.Event) == 6*q.Price {
			fitting++
		}
	}
	return fitting == len(book)
}

// fittingMeasures returns all measures that fit a book, in their order.
func fittingMeasures(worlds int, book []impl.Quote) [][]int {
	var list [][]int
	for _, m := range allMeasures[worlds] {
		if fitsBook(m, book) {
			list = append(list, m)
		}
	}
	return list
}

// badMeasures returns rows that are no measures: of too few or too many worlds, with grains past their bounds, and with too few or too many grains together, also such that the sum leaves the integers and comes back.
func badMeasures() [][]int {
	list := [][]int{
		nil, {}, {0}, {35}, {37}, {-36}, {72}, {36, 1}, {36, -1}, {37, -1}, {-1, 37}, {0, 0}, {18, 17}, {18, 19}, {-18, 54},
		{36, 36, -36}, {12, 12, 11}, {12, 12, 13}, {-1, 36, 1}, {0, 37, -1}, {9, 9, 9, 8}, {9, 9, 9, 10}, {-9, 9, 9, 27}, {12, 12, 13, -1}, {0, 0, 0, 0}, {1, 1, 1, 1},
		{36, 0, 0, 0, 0}, {0, 0, 0, 0, 36}, {9, 9, 9, 9, 0}, {8, 7, 7, 7, 7}, make([]int, 5), make([]int, 64), slices.Repeat([]int{1}, 36),
		{math.MaxInt, math.MaxInt, 38}, {math.MaxInt, 38, math.MaxInt}, {38, math.MaxInt, math.MaxInt}, {math.MaxInt, math.MaxInt, 38, 0}, {1 << 62, 1 << 62, 1 << 62, 1<<62 + 36}, {1 << 62, 1 << 62, math.MinInt, 36}, {math.MinInt, math.MinInt, 36}, {36, math.MinInt, 0, math.MinInt},
		{math.MaxInt, math.MinInt + 37}, {math.MaxInt, -math.MaxInt, 36}, {math.MinInt, math.MaxInt, 37}, {1 << 32, 36}, {36, 1 << 32}, {1 << 31, 1 << 31, 36}, {1<<32 + 36}, {1<<16 + 36}, {256 + 36}, {-(1 << 32) + 36},
	}
	for worlds := 1; worlds <= 5; worlds++ {
		for _, bad := range []int{math.MinInt, math.MinInt + 1, math.MinInt32, -37, -36, -1, 37, 72, math.MaxInt32, 1 << 32, math.MaxInt - 1, math.MaxInt} {
			for at := range worlds {
				row := make([]int, worlds)
				row[at] = bad
				list = append(list, slices.Clone(row))
				row[(at+1)%worlds] += 36 - bad // together they are Grains again, if there are two worlds
				if !isMeasure(row) {
					list = append(list, row)
				}
			}
			list = append(list, slices.Repeat([]int{bad}, worlds))
		}
	}
	return list
}

// drawMeasure draws a measure of so many worlds.
func drawMeasure(draw func(below int) int, worlds int) []int {
	return allMeasures[worlds][draw(len(allMeasures[worlds]))]
}

// drawSixths draws a measure of so many worlds that has whole sixths of all grains on each.
func drawSixths(draw func(below int) int, worlds int) []int {
	m := make([]int, worlds)
	for range 6 {
		m[draw(worlds)] += 6
	}
	return m
}

// drawFitted draws a book of so many quotes for events on which a measure has whole sixths of all grains: it fits them all.
func drawFitted(draw func(below int) int, m []int, quotes int) []impl.Quote {
	var events []int
	for event := range countOfEvents[len(m)] {
		if onEvent(m, event)%6 == 0 {
			events = append(events, event)
		}
	}
	book := make([]impl.Quote, quotes)
	for i := range book {
		event := events[draw(len(events))]
		book[i] = impl.Quote{Event: event, Price: onEvent(m, event) / 6}
	}
	return book
}

// testedBooks returns books of so many worlds: all of at most one quote, all of two for at most two worlds, drawn ones, drawn ones that are fitted to a measure, and such ones with a price of the last quote that is off by one.
func testedBooks(worlds int) [][]impl.Quote {
	list := append(booksOf(0, nil), booksOf(1, quotesOf(worlds))...)
	if worlds <= 2 {
		list = append(list, booksOf(2, quotesOf(worlds))...)
	}
	list = append(list, booksOf(3, []impl.Quote{{}, {Event: 1, Price: 2}, {Event: countOfEvents[worlds] - 1, Price: 6}})...)
	draw := drawer(uint64(40 + worlds))
	for quotes := 1; quotes <= 3; quotes++ {
		for range 120 {
			list = append(list, drawBook(draw, worlds, quotes))
			fitted := drawFitted(draw, drawSixths(draw, worlds), quotes)
			list = append(list, fitted, drawFitted(draw, drawMeasure(draw, worlds), quotes))
			off := slices.Clone(fitted)
			if last := &off[quotes-1]; last.Price < 6 {
				last.Price++
			} else {
				last.Price--
			}
			list = append(list, off)
		}
	}
	return list
}

// eachTested calls a function with the tested books of 1..4 worlds.
func eachTested(do func(worlds int, book []impl.Quote)) {
	for worlds := 1; worlds <= 4; worlds++ {
		for _, book := range testedBooks(worlds) {
			do(worlds, book)
		}
	}
}

// eachInvalidBook calls a function with books that are none of so many worlds: by the worlds, by a quote in any place, or by too many quotes.
func eachInvalidBook(do func(worlds int, book []impl.Quote)) {
	for _, worlds := range worldNumbers {
		for quotes := range 6 {
			for _, q := range []impl.Quote{{}, {Event: 1, Price: 2}, {Event: 1, Price: 6}} {
				if book := slices.Repeat([]impl.Quote{q}, quotes); !isBook(worlds, book) {
					do(worlds, book)
				}
			}
		}
		for _, bad := range badQuotes(worlds) {
			for quotes := 1; quotes <= 3; quotes++ {
				for at := range quotes {
					book := slices.Repeat([]impl.Quote{{Event: 1, Price: 2}}, quotes)
					book[at] = bad
					do(worlds, book)
				}
			}
		}
	}
	for worlds := 1; worlds <= 4; worlds++ {
		for _, quotes := range []int{4, 5, 64, 65, 1000} {
			do(worlds, make([]impl.Quote, quotes))
		}
	}
}

func TestMeasuresHaveAllGrains(t *testing.T) {
	if impl.Grains != 36 {
		t.Fatalf("Grains = %d", impl.Grains)
	}
	for worlds, list := range allMeasures {
		if len(list) != waysToLay[worlds] {
			t.Fatalf("%d measures of %d worlds", len(list), worlds)
		}
		for _, m := range list {
			if !isMeasure(m) || !impl.MeasureOk(m) {
				t.Errorf("MeasureOk(%v) = false", m)
			}
		}
	}
	var near []int
	for grains := -2; grains <= 39; grains++ {
		near = append(near, grains)
	}
	rows := append(rowsOf(1, near), rowsOf(2, near)...)
	rows = append(rows, rowsOf(3, near)...)
	rows = append(rows, rowsOf(4, []int{-36, -1, 0, 1, 9, 12, 18, 35, 36, 37, 72})...)
	rows = append(rows, rowsOf(5, []int{-1, 0, 1, 9, 18, 36})...)
	for _, row := range rows {
		if got := impl.MeasureOk(row); got != isMeasure(row) {
			t.Errorf("MeasureOk(%v) = %t", row, got)
		}
	}
	for _, bad := range badMeasures() {
		if isMeasure(bad) || impl.MeasureOk(bad) {
			t.Errorf("MeasureOk(%v) = true", bad)
		}
	}
}

func TestPromise18AllGrainsMayLieOnOneWorld(t *testing.T) {
	for worlds := 1; worlds <= impl.MaxWorlds; worlds++ {
		for at := range worlds {
			m := make([]int, worlds)
			m[at] = impl.Grains
			if !impl.MeasureOk(m) {
				t.Errorf("MeasureOk(%v) = false", m)
			}
			for _, off := range []int{-1, 1} {
				m[at] = impl.Grains + off
				if impl.MeasureOk(m) {
					t.Errorf("MeasureOk(%v) = true", m)
				}
			}
		}
	}
	rows := badMeasures()
	for worlds := range 6 {
		rows = append(rows, rowsOf(worlds, []int{-1, 0, 1, 17, 18, 19, 36})...)
	}
	for _, row := range append(rows, allMeasures[4]...) {
		turned := slices.Clone(row)
		slices.Reverse(turned)
		if got := impl.MeasureOk(row); got != isMeasure(row) || got != impl.MeasureOk(turned) {
			t.Errorf("MeasureOk(%v) = %t, but from the last world to the first one %t", row, got, impl.MeasureOk(turned))
		}
	}
	for _, row := range [][]int{nil, {}, {36, 0, 0, 0, 0}, {math.MaxInt, math.MaxInt, 38}, {1 << 62, 1 << 62, 1 << 62, 1<<62 + 36}} {
		if impl.MeasureOk(row) {
			t.Errorf("MeasureOk(%v) = true", row)
		}
	}
}

func TestGrainsOfSomeEvents(t *testing.T) {
	for _, c := range []struct {
		m           []int
		event, want int
	}{
		{[]int{6, 12, 18}, 0, 0},
		{[]int{6, 12, 18}, 1, 6},
		{[]int{6, 12, 18}, 2, 12},
		{[]int{6, 12, 18}, 3, 18},
		{[]int{6, 12, 18}, 4, 18},
		{[]int{6, 12, 18}, 5, 24},
		{[]int{6, 12, 18}, 6, 30},
		{[]int{6, 12, 18}, 7, 36},
		{[]int{6, 12, 18}, 8, -1},
		{[]int{6, 12, 18}, -1, -1},
		{[]int{6, 12, 17}, 5, -1},
		{[]int{36}, 0, 0},
		{[]int{36}, 1, 36},
		{[]int{36}, 2, -1},
		{[]int{35}, 0, -1},
		{[]int{0, 0, 0, 36}, 7, 0},
		{[]int{0, 0, 0, 36}, 8, 36},
		{[]int{1, 2, 3, 30}, 15, 36},
		{[]int{1, 2, 3, 30}, 10, 32},
		{[]int{1, 2, 3, 30}, 16, -1},
		{nil, 0, -1},
		{[]int{36, 0, 0, 0, 0}, 0, -1},
	} {
		if got := impl.GrainsOn(c.m, c.event); got != c.want {
			t.Errorf("GrainsOn(%v, %d) = %d, not %d", c.m, c.event, got, c.want)
		}
	}
}

func TestPromise19EventsAndTheirOthersHaveAllGrains(t *testing.T) {
	for worlds, list := range allMeasures {
		always := countOfEvents[worlds] - 1
		for _, m := range list {
			for event := range countOfEvents[worlds] {
				got, other := impl.GrainsOn(m, event), impl.GrainsOn(m, impl.NotEvent(worlds, event))
				if got != onEvent(m, event) || got+other != impl.Grains {
					t.Fatalf("%v: %d on %d, and %d on its other", m, got, event, other)
				}
			}
			if impl.GrainsOn(m, always) != impl.Grains || impl.GrainsOn(m, 0) != 0 {
				t.Fatalf("%v: not all grains on all worlds, or some on none", m)
			}
		}
	}
	for _, bad := range badMeasures() {
		for _, event := range eventNumbers() {
			if got := impl.GrainsOn(bad, event); got != -1 {
				t.Fatalf("GrainsOn(%v, %d) = %d", bad, event, got)
			}
		}
	}
	for _, m := range [][]int{{36}, {18, 18}, {36, 0}, {12, 12, 12}, {0, 0, 36}, {9, 9, 9, 9}, {36, 0, 0, 0}} {
		for _, event := range eventNumbers() {
			if got := impl.GrainsOn(m, event); !isEvent(len(m), event) && got != -1 {
				t.Errorf("GrainsOn(%v, %d) = %d", m, event, got)
			}
		}
	}
}

func TestWhatSomeGamblesBring(t *testing.T) {
	for _, c := range []struct {
		m, g []int
		want int
		ok   bool
	}{
		{[]int{6, 12, 18}, []int{1, 0, -1}, -12, true},
		{[]int{6, 12, 18}, []int{0, 0, 0}, 0, true},
		{[]int{6, 12, 18}, []int{1, 10, 100}, 1926, true},
		{[]int{36}, []int{1000}, 36000, true},
		{[]int{36}, []int{-1000}, -36000, true},
		{[]int{36}, []int{1001}, 0, false},
		{[]int{35}, []int{1}, 0, false},
		{[]int{36}, []int{1, 1}, 0, false},
		{[]int{36, 0}, []int{1}, 0, false},
		{[]int{36, 0, 0, 0}, []int{-7, 1000, 1000, 1000}, -252, true},
		{[]int{0, 0, 0, 36}, []int{1000, 1000, 1000, -7}, -252, true},
		{[]int{9, 9, 9, 9}, []int{1000, 1000, 1000, 1000}, 36000, true},
		{[]int{9, 9, 9, 9}, []int{1000, -1000, 3, -2}, 9, true},
		{[]int{9, 9, 9, 9}, []int{1, 1, 1}, 0, false},
		{[]int{36, 0, 0, 0, 0}, []int{1, 1, 1, 1, 1}, 0, false},
		{nil, nil, 0, false},
		{nil, []int{1}, 0, false},
		{[]int{36}, nil, 0, false},
		{[]int{math.MaxInt, math.MaxInt, 38}, []int{1, 1, 1}, 0, false},
		{[]int{36}, []int{math.MinInt}, 0, false},
	} {
		if got, ok := impl.BringsBy(c.m, c.g); got != c.want || ok != c.ok {
			t.Errorf("BringsBy(%v, %v) = %d, %t", c.m, c.g, got, ok)
		}
	}
}

// checkBrings tests what promise 20 says, and what BringsBy returns, for a measure and a gamble of as many worlds.
func checkBrings(t *testing.T, m []int, g []int) {
	t.Helper()
	want := 0
	for world := range m {
		for range m[world] {
			want += g[world] // each grain brings the amount of its world
		}
	}
	got, ok := impl.BringsBy(m, g)
	if !ok || got != want {
		t.Fatalf("BringsBy(%v, %v) = %d, %t", m, g, got, ok)
	}
	worst, _ := impl.WorstOf(g)
	best, _ := impl.BestOf(g)
	if got < 36*worst || got > 36*best {
		t.Fatalf("%v brings by %v %d, but is at worst %d and at best %d", g, m, got, worst, best)
	}
	other, _ := impl.TimesGamble(g, -1)
	if turned, ok := impl.BringsBy(m, other); !ok || turned != -got {
		t.Fatalf("%v brings by %v %d, but the other side %d, %t", g, m, got, turned, ok)
	}
	if impl.LosesOk(g) && got >= 0 {
		t.Fatalf("%v surely loses, but brings by %v %d", g, m, got)
	}
}

func TestPromise20WhatGamblesBringIsBetweenWorstAndBest(t *testing.T) {
	draw := drawer(20)
	eachGamble(func(g []int) {
		worlds := len(g)
		for at := range worlds {
			m := make([]int, worlds)
			m[at] = 36
			checkBrings(t, m, g)
		}
		for range 6 {
			checkBrings(t, drawMeasure(draw, worlds), g)
		}
	})
	for worlds, list := range allMeasures {
		for _, m := range list {
			checkBrings(t, m, []int{-1, -2, -3, -1000}[:worlds])
			checkBrings(t, m, []int{7, -1000, 1000, 1}[:worlds])
		}
	}
	checkNone := func(m []int, g []int) {
		t.Helper()
		if got, ok := impl.BringsBy(m, g); ok || got != 0 {
			t.Fatalf("BringsBy(%v, %v) = %d, %t", m, g, got, ok)
		}
	}
	for _, bad := range badMeasures() {
		checkNone(bad, slices.Repeat([]int{1}, len(bad)))
		checkNone(bad, []int{1})
		checkNone(bad, nil)
	}
	for _, bad := range badGambles() {
		for worlds := 1; worlds <= 4; worlds++ {
			checkNone(allMeasures[worlds][0], bad)
		}
		checkNone(bad, bad)
	}
	for worlds := 1; worlds <= 4; worlds++ {
		for others := 1; others <= 4; others++ {
			if worlds != others {
				checkNone(drawMeasure(draw, worlds), drawGamble(draw, others, 9))
				checkNone(allMeasures[worlds][0], make([]int, others))
			}
		}
	}
}

func TestMeasuresThatFitSomeBooks(t *testing.T) {
	book := []impl.Quote{{Event: 3, Price: 3}, {Event: 6, Price: 4}}
	never, always := impl.Quote{Event: 0, Price: 0}, impl.Quote{Event: 7, Price: 6}
	for _, c := range []struct {
		m    []int
		book []impl.Quote
		want bool
	}{
		{[]int{12, 6, 18}, book, true},
		{[]int{6, 12, 18}, book, false},
		{[]int{6, 12, 18}, book[:1], true},
		{[]int{6, 12, 18}, nil, true},
		{[]int{6, 12, 18}, []impl.Quote{never, always, never}, true},
		{[]int{6, 12, 18}, []impl.Quote{never, always, never, always}, false},
		{[]int{6, 12, 18}, []impl.Quote{{Event: 0, Price: 1}}, false},
		{[]int{6, 12, 18}, []impl.Quote{{Event: 7, Price: 5}}, false},
		{[]int{36, 0, 0}, []impl.Quote{{Event: 1, Price: 6}, {Event: 6, Price: 0}}, true},
		{[]int{36, 0, 0}, []impl.Quote{{Event: 1, Price: 6}, {Event: 6, Price: 1}}, false},
		{[]int{5, 13, 18}, []impl.Quote{{Event: 1, Price: 1}}, false},
		{[]int{5, 13, 18}, []impl.Quote{{Event: 1, Price: 0}}, false},
		{[]int{36}, nil, true},
		{[]int{36}, []impl.Quote{{Event: 1, Price: 6}}, true},
		{[]int{36}, []impl.Quote{{Event: 2, Price: 0}}, false},
		{[]int{36, 0}, []impl.Quote{{Event: 2, Price: 0}}, true},
		{[]int{36}, []impl.Quote{{Event: 1, Price: 7}}, false},
		{[]int{36}, []impl.Quote{{Event: -2, Price: 0}}, false},
		{[]int{35}, nil, false},
		{nil, nil, false},
		{[]int{36, 0, 0, 0, 0}, nil, false},
		{[]int{1 << 62, 1 << 62, 1 << 62, 1<<62 + 36}, nil, false},
		{[]int{1 << 62, 1 << 62, 1 << 62, 1<<62 + 36}, []impl.Quote{{Event: 15, Price: 6}}, false},
	} {
		if got := impl.FitsOk(c.m, c.book); got != c.want {
			t.Errorf("FitsOk(%v, %v) = %t", c.m, c.book, got)
		}
	}
}

// checkFits tests what promise 21 says, and what FitsOk reports, for a measure and a book of as many worlds.
func checkFits(t *testing.T, draw func(below int) int, m []int, book []impl.Quote) bool {
	t.Helper()
	worlds, fits := len(m), impl.FitsOk(m, book)
	if fits != fitsBook(m, book) {
		t.Fatalf("FitsOk(%v, %v) = %t", m, book, fits)
	}
	alone := true
	for _, q := range book {
		brings, ok := impl.BringsBy(m, impl.GainOf(worlds, q, 1))
		alone = alone && ok && brings == 0
	}
	if fits != alone {
		t.Fatalf("%v fits %v: %t, but each bet alone brings nothing: %t", m, book, fits, alone)
	}
	if fits {
		stakes := drawStakes(draw, len(book))
		gamble, _ := impl.BalanceOf(worlds, book, stakes)
		if brings, ok := impl.BringsBy(m, gamble); !ok || brings != 0 {
			t.Fatalf("%v fits %v, but at %v they bring %d, %t", m, book, stakes, brings, ok)
		}
	}
	return fits
}

func TestPromise21ByWhatFitsNoBetBringsAnything(t *testing.T) {
	draw, fitting, others := drawer(21), 0, 0
	eachTested(func(worlds int, book []impl.Quote) {
		list := fittingMeasures(worlds, book)
		for range 8 {
			if len(list) > 0 && checkFits(t, draw, list[draw(len(list))], book) {
				fitting++
			}
			if !checkFits(t, draw, drawMeasure(draw, worlds), book) {
				others++
			}
		}
	})
	if fitting < 1000 || others < 1000 {
		t.Errorf("%d fit, %d do not", fitting, others)
	}
	for worlds, list := range allMeasures {
		for _, m := range list {
			q := impl.Quote{Event: draw(countOfEvents[worlds]), Price: draw(7)}
			checkFits(t, draw, m, []impl.Quote{q})
			checkFits(t, draw, m, nil)
		}
	}
	for _, bad := range badMeasures() {
		for _, book := range [][]impl.Quote{nil, {}, {{}}, {{Event: 1, Price: 6}}, {{Event: 1}}} {
			if impl.FitsOk(bad, book) {
				t.Errorf("FitsOk(%v, %v) = true", bad, book)
			}
		}
	}
	eachInvalidBook(func(worlds int, book []impl.Quote) {
		for _, m := range allMeasures[worlds] {
			if impl.FitsOk(m, book) {
				t.Fatalf("FitsOk(%v, %v) = true", m, book)
			}
			if len(m) > 2 && m[0] > 0 {
				break // the measures that have nothing on the first world are enough
			}
		}
	})
}

func TestFirstMeasuresOfSomeBooks(t *testing.T) {
	for _, c := range []struct {
		worlds int
		book   []impl.Quote
		want   []int
		count  int
	}{
		{1, nil, []int{36}, 1},
		{1, []impl.Quote{{Event: 1, Price: 6}}, []int{36}, 1},
		{1, []impl.Quote{{Event: 0, Price: 0}, {Event: 1, Price: 6}, {Event: 0, Price: 0}}, []int{36}, 1},
		{1, []impl.Quote{{Event: 1, Price: 5}}, nil, 0},
		{1, []impl.Quote{{Event: 0, Price: 6}}, nil, 0},
		{2, nil, []int{0, 36}, 37},
		{2, []impl.Quote{{Event: 1, Price: 2}}, []int{12, 24}, 1},
		{2, []impl.Quote{{Event: 1, Price: 2}, {Event: 2, Price: 4}}, []int{12, 24}, 1},
		{2, []impl.Quote{{Event: 1, Price: 2}, {Event: 2, Price: 3}}, nil, 0},
		{3, nil, []int{0, 0, 36}, 703},
		{3, []impl.Quote{{Event: 3, Price: 3}, {Event: 6, Price: 4}}, []int{12, 6, 18}, 1},
		{3, []impl.Quote{{Event: 3, Price: 1}, {Event: 1, Price: 2}}, nil, 0},
		{3, []impl.Quote{{Event: 4, Price: 0}}, []int{0, 36, 0}, 37},
		{3, []impl.Quote{{Event: 6, Price: 0}}, []int{36, 0, 0}, 1},
		{4, nil, []int{0, 0, 0, 36}, 9139},
		{4, []impl.Quote{{Event: 10, Price: 2}, {Event: 12, Price: 3}}, []int{6, 12, 18, 0}, 13},
		{4, []impl.Quote{{Event: 1, Price: 1}}, []int{6, 0, 0, 30}, 496},
		{4, []impl.Quote{{Event: 1, Price: 6}}, []int{36, 0, 0, 0}, 1},
		{4, []impl.Quote{{Event: 1, Price: 1}, {Event: 2, Price: 2}, {Event: 4, Price: 3}}, []int{6, 12, 18, 0}, 1},
		{4, []impl.Quote{{Event: 1, Price: 1}, {Event: 2, Price: 2}, {Event: 4, Price: 4}}, nil, 0},
		{4, []impl.Quote{{Event: 15, Price: 6}, {Event: 0, Price: 0}}, []int{0, 0, 0, 36}, 9139},
		{4, []impl.Quote{{Event: 15, Price: 0}}, nil, 0},
		{4, []impl.Quote{{Event: 16, Price: 0}}, nil, -1},
		{4, []impl.Quote{{Event: 1, Price: 7}}, nil, -1},
		{4, make([]impl.Quote, 4), nil, -1},
		{4, make([]impl.Quote, 3), []int{0, 0, 0, 36}, 9139},
		{0, nil, nil, -1},
		{5, nil, nil, -1},
	} {
		m, ok := impl.FirstMeasure(c.worlds, c.book)
		if ok != (c.want != nil) || !slices.Equal(m, c.want) {
			t.Errorf("FirstMeasure(%d, %v) = %v, %t", c.worlds, c.book, m, ok)
		}
		if fair := impl.FairOk(c.worlds, c.book); fair != (c.want != nil) {
			t.Errorf("FairOk(%d, %v) = %t", c.worlds, c.book, fair)
		}
		if count := impl.CountMeasures(c.worlds, c.book); count != c.count {
			t.Errorf("CountMeasures(%d, %v) = %d", c.worlds, c.book, count)
		}
	}
}

func TestPromise22TheFirstMeasureFitsAndNoneBeforeIt(t *testing.T) {
	fair := 0
	eachTested(func(worlds int, book []impl.Quote) {
		m, ok := impl.FirstMeasure(worlds, book)
		list := fittingMeasures(worlds, book)
		if ok != (len(list) > 0) || ok != impl.FairOk(worlds, book) {
			t.Fatalf("FirstMeasure(%d, %v) = %v, %t", worlds, book, m, ok)
		}
		if !ok {
			if len(m) != 0 {
				t.Fatalf("FirstMeasure(%d, %v) = %v beside false", worlds, book, m)
			}
			return
		}
		fair++
		if !slices.Equal(m, list[0]) || !impl.FitsOk(m, book) {
			t.Fatalf("FirstMeasure(%d, %v) = %v, not %v", worlds, book, m, list[0])
		}
		if len(book) == impl.MaxQuotes {
			return
		}
		for price := 0; 6*price < m[0]; price++ {
			further := append(slices.Clone(book), impl.Quote{Event: 1, Price: price})
			if impl.FairOk(worlds, further) {
				t.Fatalf("%d worlds: %v is fair, but the first measure before is %v", worlds, further, m)
			}
		}
	})
	if fair < 1000 {
		t.Errorf("%d books are fair", fair)
	}
	eachInvalidBook(func(worlds int, book []impl.Quote) {
		if m, ok := impl.FirstMeasure(worlds, book); ok || len(m) != 0 {
			t.Fatalf("FirstMeasure(%d, %v) = %v, %t", worlds, book, m, ok)
		}
	})
}

func TestBooksOfOneQuoteAreFair(t *testing.T) {
	for worlds := 1; worlds <= impl.MaxWorlds; worlds++ {
		always := countOfEvents[worlds] - 1
		for _, q := range quotesOf(worlds) {
			want := true
			if q.Event == 0 {
				want = q.Price == 0
			} else if q.Event == always {
				want = q.Price == 6
			}
			if got := impl.FairOk(worlds, []impl.Quote{q}); got != want {
				t.Errorf("FairOk(%d, %v) = %t", worlds, q, got)
			}
		}
	}
}

func TestPromise23FairBooksStayFair(t *testing.T) {
	for _, worlds := range worldNumbers {
		valid := countOfEvents[worlds] > 0
		if impl.FairOk(worlds, nil) != valid || impl.FairOk(worlds, []impl.Quote{}) != valid || impl.FairOk(worlds, make([]impl.Quote, 0, 9)) != valid {
			t.Errorf("%d worlds: a book of no quotes is fair: not %t", worlds, valid)
		}
	}
	eachTested(func(worlds int, book []impl.Quote) {
		fair := impl.FairOk(worlds, book)
		if fair != (len(fittingMeasures(worlds, book)) > 0) {
			t.Fatalf("FairOk(%d, %v) = %t", worlds, book, fair)
		}
		for at, q := range book {
			other := slices.Clone(book)
			other[at] = impl.OtherQuote(worlds, q)
			if impl.FairOk(worlds, other) != fair {
				t.Fatalf("%d worlds: %v is fair: %t, but not so with the other quote at %d", worlds, book, fair, at)
			}
		}
		if fair && len(book) > 0 && !impl.FairOk(worlds, book[:len(book)-1]) {
			t.Fatalf("%d worlds: %v is fair, but not without its last quote", worlds, book)
		}
	})
	eachInvalidBook(func(worlds int, book []impl.Quote) {
		if impl.FairOk(worlds, book) {
			t.Fatalf("FairOk(%d, %v) = true", worlds, book)
		}
	})
}

func TestPromise24ThereAreMeasuresJustIfTheBookIsFair(t *testing.T) {
	for worlds := 1; worlds <= impl.MaxWorlds; worlds++ {
		if none, empty := impl.CountMeasures(worlds, nil), impl.CountMeasures(worlds, []impl.Quote{}); none != waysToLay[worlds] || empty != none {
			t.Errorf("%d worlds: %d or %d measures", worlds, none, empty)
		}
	}
	eachTested(func(worlds int, book []impl.Quote) {
		count := impl.CountMeasures(worlds, book)
		if count != len(fittingMeasures(worlds, book)) {
			t.Fatalf("CountMeasures(%d, %v) = %d", worlds, book, count)
		}
		if (count == 0) == impl.FairOk(worlds, book) {
			t.Fatalf("CountMeasures(%d, %v) = %d, but the book is fair: %t", worlds, book, count, count == 0)
		}
		if len(book) == 0 {
			return
		}
		if fewer := impl.CountMeasures(worlds, book[:len(book)-1]); fewer < count {
			t.Fatalf("%d worlds: %d measures fit %v, but %d without its last quote", worlds, count, book, fewer)
		}
	})
	eachInvalidBook(func(worlds int, book []impl.Quote) {
		if count := impl.CountMeasures(worlds, book); count != -1 {
			t.Fatalf("CountMeasures(%d, %v) = %d", worlds, book, count)
		}
	})
}

func TestMixturesOfSomeMeasures(t *testing.T) {
	for _, c := range []struct {
		a, b, want []int
	}{
		{[]int{36}, []int{36}, []int{36}},
		{[]int{36, 0}, []int{0, 36}, []int{18, 18}},
		{[]int{36, 0}, []int{36, 0}, []int{36, 0}},
		{[]int{35, 1}, []int{35, 1}, []int{35, 1}},
		{[]int{35, 1}, []int{1, 35}, []int{18, 18}},
		{[]int{35, 1}, []int{36, 0}, nil},
		{[]int{0, 0, 36}, []int{0, 36, 0}, []int{0, 18, 18}},
		{[]int{1, 2, 33}, []int{3, 4, 29}, []int{2, 3, 31}},
		{[]int{1, 2, 33}, []int{3, 3, 30}, nil},
		{[]int{1, 2, 33}, []int{2, 2, 32}, nil},
		{[]int{9, 9, 9, 9}, []int{9, 9, 9, 9}, []int{9, 9, 9, 9}},
		{[]int{36, 0, 0, 0}, []int{0, 0, 0, 36}, []int{18, 0, 0, 18}},
		{[]int{36, 0, 0, 0}, []int{34, 0, 1, 1}, nil},
		{[]int{36, 0, 0, 0}, []int{33, 1, 1, 1}, nil},
		{[]int{36, 0, 0, 0}, []int{1, 0, 0, 35}, nil},
		{[]int{36}, []int{36, 0}, nil},
		{[]int{36, 0}, []int{36}, nil},
		{[]int{36, 0, 0}, []int{36, 0, 0, 0}, nil},
		{[]int{35}, []int{37}, nil},
		{[]int{37}, []int{35}, nil},
		{[]int{36, 2}, []int{36, -2}, nil},
		{[]int{36, 0}, []int{38, -2}, nil},
		{nil, nil, nil},
		{nil, []int{36}, nil},
		{[]int{36}, nil, nil},
		{[]int{36, 0, 0, 0, 0}, []int{36, 0, 0, 0, 0}, nil},
		{[]int{math.MaxInt, math.MaxInt, 38}, []int{math.MaxInt, math.MaxInt, 38}, nil},
	} {
		if m, ok := impl.MixedMeasure(c.a, c.b); ok != (c.want != nil) || !slices.Equal(m, c.want) {
			t.Errorf("MixedMeasure(%v, %v) = %v, %t", c.a, c.b, m, ok)
		}
	}
}

// checkMixed tests what promise 25 says, and what MixedMeasure returns, for two measures of as many worlds, and reports whether they have a mixed one.
func checkMixed(t *testing.T, a []int, b []int) bool {
	t.Helper()
	m, ok := impl.MixedMeasure(a, b)
	halves := 0
	for world := range a {
		if a[world]%2 == b[world]%2 {
			halves++
		}
	}
	if ok != (halves == len(a)) || !ok && len(m) != 0 {
		t.Fatalf("MixedMeasure(%v, %v) = %v, %t", a, b, m, ok)
	}
	if !ok {
		return false
	}
	if len(m) != len(a) || !impl.MeasureOk(m) {
		t.Fatalf("MixedMeasure(%v, %v) = %v, which is no measure", a, b, m)
	}
	for event := range countOfEvents[len(a)] {
		if 2*impl.GrainsOn(m, event) != impl.GrainsOn(a, event)+impl.GrainsOn(b, event) {
			t.Fatalf("MixedMeasure(%v, %v) = %v: on %d it has not half of both", a, b, m, event)
		}
	}
	return true
}

func TestPromise25MixedMeasuresFitWhatBothFit(t *testing.T) {
	draw, mixed, unmixed := drawer(25), 0, 0
	count := func(a []int, b []int) {
		t.Helper()
		if checkMixed(t, a, b) {
			mixed++
		} else {
			unmixed++
		}
	}
	for worlds := 1; worlds <= impl.MaxWorlds; worlds++ {
		for _, a := range allMeasures[worlds] {
			count(a, a)
			if worlds < 3 {
				for _, b := range allMeasures[worlds] {
					count(a, b)
				}
			}
			for range 6 {
				count(a, drawMeasure(draw, worlds))
			}
		}
	}
	fitted := 0
	eachTested(func(worlds int, book []impl.Quote) {
		list := fittingMeasures(worlds, book)
		for range min(12, len(list)*len(list)) {
			a, b := list[draw(len(list))], list[draw(len(list))]
			if m, ok := impl.MixedMeasure(a, b); ok && !slices.Equal(a, b) {
				fitted++
				if !impl.FitsOk(m, book) {
					t.Fatalf("%v and %v fit %v, but %v does not", a, b, book, m)
				}
			}
		}
	})
	if mixed < 1000 || unmixed < 1000 || fitted < 1000 {
		t.Errorf("%d are mixed, %d are not, and %d fit a book", mixed, unmixed, fitted)
	}
	checkNone := func(a []int, b []int) {
		t.Helper()
		if m, ok := impl.MixedMeasure(a, b); ok || len(m) != 0 {
			t.Fatalf("MixedMeasure(%v, %v) = %v, %t", a, b, m, ok)
		}
	}
	for _, bad := range badMeasures() {
		checkNone(bad, bad)
		for worlds := 1; worlds <= 4; worlds++ {
			checkNone(bad, allMeasures[worlds][0])
			checkNone(allMeasures[worlds][0], bad)
		}
	}
	for worlds := 1; worlds <= 4; worlds++ {
		for others := 1; others <= 4; others++ {
			if worlds != others {
				checkNone(allMeasures[worlds][0], allMeasures[others][0])
				checkNone(allMeasures[worlds][len(allMeasures[worlds])-1], allMeasures[others][len(allMeasures[others])-1])
			}
		}
	}
}

// TestOddHalvesInAnyPlaces: grains that have no half refuse two measures on whichever worlds they lie.
func TestOddHalvesInAnyPlaces(t *testing.T) {
	for worlds := 2; worlds <= 4; worlds++ {
		for one := range worlds {
			for other := range worlds {
				if one == other {
					continue
				}
				a, b := make([]int, worlds), make([]int, worlds)
				a[one] = 36
				b[one], b[other] = 35, 1
				if m, ok := impl.MixedMeasure(a, b); ok || len(m) != 0 {
					t.Errorf("MixedMeasure(%v, %v) = %v, %t", a, b, m, ok)
				}
				b[one], b[other] = 34, 2
				if m, ok := impl.MixedMeasure(a, b); !ok || m[one] != 35 || m[other] != 1 {
					t.Errorf("MixedMeasure(%v, %v) = %v, %t", a, b, m, ok)
				}
			}
		}
	}
}

func TestMeasuresAreNewMemory(t *testing.T) {
	for worlds := 1; worlds <= impl.MaxWorlds; worlds++ {
		for _, m := range [][]int{allMeasures[worlds][0], allMeasures[worlds][waysToLay[worlds]/2]} {
			room := append(slices.Clone(m), 9, 9, 9, 9)
			other := slices.Clone(m)
			for _, mix := range []func(row []int) ([]int, bool){
				func(row []int) ([]int, bool) { return impl.MixedMeasure(row, row) },
				func(row []int) ([]int, bool) { return impl.MixedMeasure(row, other) },
				func(row []int) ([]int, bool) { return impl.MixedMeasure(other, row) },
			} {
				checkNewMemory(t, room, worlds, func(row []int) []int {
					mixed, _ := mix(row)
					return mixed
				})
			}
			if !slices.Equal(other, m) {
				t.Fatalf("%v was written to: %v", m, other)
			}
		}
		draw := drawer(uint64(50 + worlds))
		for quotes := range 4 {
			book := drawFitted(draw, drawSixths(draw, worlds), quotes)
			before := slices.Clone(book)
			checkNewMemory(t, make([]int, 4), worlds, func([]int) []int {
				m, _ := impl.FirstMeasure(worlds, book)
				return m
			})
			if !slices.Equal(book, before) {
				t.Fatalf("%v was written to: %v", before, book)
			}
		}
	}
}

// TestMeasuresAreOnlyRead: no function writes to a measure, a gamble or a book, or to the room behind them, also not for calls that have no result.
func TestMeasuresAreOnlyRead(t *testing.T) {
	quotes := []impl.Quote{{Event: 1, Price: 2}, {Event: 0, Price: 0}, {Event: 1, Price: 6}, {Event: 3, Price: 6}, {Event: -1, Price: 9}}
	for _, grains := range [][]int{{36, 0, 0, 0, 0, 9}, {12, 24, 0, 0, 0, 9}, {9, 10, 17, 0, 0, 9}, {0, 0, 0, 36, 0, 9}, {9, 9, 9, 8, 1, 9}, {-1, 37, 0, 0, 0, 9}, {math.MaxInt, math.MaxInt, 38, 0, math.MinInt, 9}} {
		for _, amounts := range [][]int{{3, -2, 5, 0, 1, 9}, {1001, 1, 1, 1, 1, 9}, {33, 1, 1, 1, 0, 9}} {
			a, b, book := slices.Clone(grains), slices.Clone(amounts), slices.Clone(quotes)
			for worlds := range 6 {
				m, g := a[:worlds], b[:worlds]
				impl.MeasureOk(m)
				impl.GrainsOn(m, 1)
				impl.BringsBy(m, g)
				impl.MixedMeasure(m, g)
				impl.MixedMeasure(g, m)
				for length := range 6 {
					impl.FitsOk(m, book[:length])
					impl.FirstMeasure(worlds, book[:length])
					impl.FairOk(worlds, book[:length])
					impl.CountMeasures(worlds, book[:length])
				}
			}
			if !slices.Equal(a, grains) || !slices.Equal(b, amounts) || !slices.Equal(book, quotes) {
				t.Fatalf("%v, %v or %v was written to: %v %v %v", grains, amounts, quotes, a, b, book)
			}
		}
	}
}
