package tests

import (
	"math"
	"slices"
	"testing"

	"loop.example/fairbooks/impl"
)

// commonEvents has, for each two events of four worlds, the event of the worlds that both have. Of events of fewer worlds it is the same.
var commonEvents = func() [16][16]int {
	var table [16][16]int
	for a := range 16 {
		for b := range 16 {
			second := setOf(4, b)
			for world, in := range setOf(4, a) {
				if in && second[world] {
					table[a][b] += []int{1, 2, 4, 8}[world]
				}
			}
		}
	}
	return table
}()

// fractionOf tells by trying one number after the other as the second one how a part of some grains, which are more than none, is written in least terms.
func fractionOf(part int, all int) (int, int) {
	under := 1
	for part*under%all != 0 {
		under++
	}
	return part * under / all, under
}

// givenEvent tells what GivenBy has to return for a measure and events of as many worlds.
func givenEvent(m []int, a int, b int) (int, int, bool) {
	all := onEvent(m, b)
	if all == 0 {
		return 0, 0, false
	}
	over, under := fractionOf(onEvent(m, commonEvents[a][b]), all)
	return over, under, true
}

// calledOff tells by the bet itself what CalledGain has to return: where the second event does not come true nothing, and else what the bet on the first one brings.
func calledOff(worlds int, a int, b int, price int) []int {
	gain := make([]int, worlds)
	second := setOf(worlds, b)
	for world := range gain {
		if second[world] {
			gain[world] = brought(worlds, impl.Quote{Event: a, Price: price}, 1, world)
		}
	}
	return gain
}

// leftBy tells by trying one divisor after the other, from all grains down, what AfterEvent has to return; nil if the event has no grains.
func leftBy(m []int, event int) []int {
	left := make([]int, len(m))
	for world, in := range setOf(len(m), event) {
		if in {
			left[world] = m[world]
		}
	}
	for divisor := 36; divisor > 0 && onEvent(m, event) > 0; divisor-- {
		if !slices.ContainsFunc(left, func(grains int) bool { return grains%divisor != 0 }) {
			for world := range left {
				left[world] /= divisor
			}
			return left
		}
	}
	return nil
}

// eachGiven calls a function with all measures, and all pairs of events of as many worlds.
func eachGiven(do func(m []int, a int, b int)) {
	for worlds := 1; worlds <= 4; worlds++ {
		for _, m := range allMeasures[worlds] {
			for a := range countOfEvents[worlds] {
				for b := range countOfEvents[worlds] {
					do(m, a, b)
				}
			}
		}
	}
}

// givenMeasures has measures of 1..4 worlds: with all grains on one world, with some worlds without grains, and with grains on each.
var givenMeasures = [][]int{{36}, {36, 0}, {0, 36}, {12, 24}, {1, 35}, {36, 0, 0}, {0, 18, 18}, {12, 6, 18}, {0, 0, 0, 36}, {0, 0, 36, 0}, {0, 9, 0, 27}, {9, 9, 9, 9}, {1, 2, 4, 29}}

// eachInvalidMeasured calls a function with rows and pairs of numbers that are no measure and two events of as many worlds: by the row, or by one number or both of them.
func eachInvalidMeasured(do func(m []int, a int, b int)) {
	for _, bad := range badMeasures() {
		for _, a := range []int{-1, 0, 1, 3, 15, 16, math.MinInt, math.MaxInt} {
			for _, b := range []int{-1, 0, 1, 2, 7, 15, 16, math.MinInt, math.MaxInt} {
				do(bad, a, b)
			}
		}
	}
	for _, m := range givenMeasures {
		for _, a := range eventNumbers() {
			for _, b := range eventNumbers() {
				if !isEvent(len(m), a) || !isEvent(len(m), b) {
					do(m, a, b)
				}
			}
		}
	}
}

// checkGiven tests what GivenBy returns: the two numbers, or 0 and 0 if nothing is told.
func checkGiven(t *testing.T, m []int, a int, b int, over int, under int) {
	t.Helper()
	if gotOver, gotUnder, ok := impl.GivenBy(m, a, b); gotOver != over || gotUnder != under || ok != (under != 0) {
		t.Fatalf("GivenBy(%v, %d, %d) = %d, %d, %t, not %d, %d", m, a, b, gotOver, gotUnder, ok, over, under)
	}
}

func TestSomePricesGivenEvents(t *testing.T) {
	for _, c := range []struct {
		m           []int
		a, b        int
		over, under int
	}{
		{[]int{36}, 1, 1, 1, 1},
		{[]int{36}, 0, 1, 0, 1},
		{[]int{36}, 1, 0, 0, 0}, // no grains on no worlds
		{[]int{36}, 0, 0, 0, 0},
		{[]int{36, 0}, 1, 2, 0, 0}, // no grains on a world
		{[]int{36, 0}, 2, 2, 0, 0},
		{[]int{36, 0}, 1, 3, 1, 1}, // surely so
		{[]int{36, 0}, 2, 3, 0, 1}, // a first event without grains
		{[]int{36, 0}, 2, 1, 0, 1}, // surely not
		{[]int{36, 0}, 0, 3, 0, 1},
		{[]int{36, 0}, 3, 3, 1, 1}, // both always
		{[]int{12, 6, 18}, 1, 3, 2, 3},
		{[]int{12, 6, 18}, 2, 3, 1, 3},
		{[]int{12, 6, 18}, 3, 3, 1, 1}, // both the same
		{[]int{12, 6, 18}, 4, 3, 0, 1},
		{[]int{12, 6, 18}, 7, 3, 1, 1}, // surely so, as it always comes true
		{[]int{12, 6, 18}, 3, 1, 1, 1}, // surely so, as it is implied
		{[]int{12, 6, 18}, 1, 7, 1, 3}, // a second event that always comes true
		{[]int{12, 6, 18}, 5, 7, 5, 6},
		{[]int{12, 6, 18}, 6, 7, 2, 3},
		{[]int{12, 6, 18}, 5, 6, 3, 4},
		{[]int{12, 6, 18}, 6, 5, 3, 5},
		{[]int{12, 6, 18}, 5, 0, 0, 0},
		{[]int{1, 2, 4, 29}, 1, 15, 1, 36}, // fractions that need not be reduced
		{[]int{1, 2, 4, 29}, 8, 15, 29, 36},
		{[]int{1, 2, 4, 29}, 5, 11, 1, 32},
		{[]int{1, 2, 4, 29}, 10, 9, 29, 30},
		{[]int{1, 2, 4, 29}, 3, 7, 3, 7},
		{[]int{1, 2, 4, 29}, 4, 6, 2, 3},
		{[]int{7, 14, 14, 1}, 3, 7, 3, 5},
		{[]int{5, 25, 5, 1}, 2, 7, 5, 7},
		{[]int{13, 13, 10, 0}, 1, 3, 1, 2},
		{[]int{17, 17, 2, 0}, 9, 11, 1, 2},
		{[]int{9, 9, 9, 9}, 1, 15, 1, 4},
		{[]int{9, 9, 9, 9}, 14, 13, 2, 3},
		{[]int{0, 9, 0, 27}, 2, 10, 1, 4},
		{[]int{0, 9, 0, 27}, 10, 15, 1, 1},
		{[]int{0, 9, 0, 27}, 5, 15, 0, 1},
		{[]int{0, 9, 0, 27}, 15, 5, 0, 0},
		{[]int{0, 0, 0, 36}, 8, 15, 1, 1}, // all grains on one world
		{[]int{0, 0, 0, 36}, 7, 15, 0, 1},
		{[]int{0, 0, 0, 36}, 8, 7, 0, 0},
		{[]int{0, 0, 0, 36}, 15, 8, 1, 1},
		{[]int{12, 6, 17}, 1, 3, 0, 0}, // no measures: by one grain, by a negative one, by the length
		{[]int{12, 6, 19}, 1, 3, 0, 0},
		{[]int{12, 25, -1}, 1, 3, 0, 0},
		{[]int{-1, 37}, 1, 3, 0, 0},
		{[]int{12, 6, 18, 0, 0}, 1, 3, 0, 0},
		{[]int{}, 0, 0, 0, 0},
		{nil, 0, 0, 0, 0},
		{[]int{12, 6, 18}, -1, 3, 0, 0}, // no events
		{[]int{12, 6, 18}, 1, -1, 0, 0},
		{[]int{12, 6, 18}, 8, 3, 0, 0},
		{[]int{12, 6, 18}, 1, 8, 0, 0},
		{[]int{12, 6, 18}, 9, 3, 0, 0},
		{[]int{12, 6, 18}, 1, 11, 0, 0},
		{[]int{12, 6, 18}, math.MinInt, 3, 0, 0},
		{[]int{12, 6, 18}, 1, math.MaxInt, 0, 0},
		{[]int{math.MaxInt, math.MaxInt, 38}, 1, 3, 0, 0},
		{[]int{math.MinInt, math.MinInt, 36}, 1, 4, 0, 0},
	} {
		checkGiven(t, c.m, c.a, c.b, c.over, c.under)
	}
}

// TestPricesGivenEventsGoByGrains: all that GivenBy returns is told by the grains on both events and on the second one.
func TestPricesGivenEventsGoByGrains(t *testing.T) {
	nothing, whole, reduced, kept, untold := 0, 0, 0, 0, 0
	eachGiven(func(m []int, a int, b int) {
		over, under, ok := givenEvent(m, a, b)
		checkGiven(t, m, a, b, over, under)
		switch {
		case !ok:
			untold++
		case over == 0:
			nothing++
		case over == under:
			whole++
		case under < onEvent(m, b):
			reduced++
		default:
			kept++
		}
	})
	if nothing < 1000 || whole < 1000 || reduced < 1000 || kept < 1000 || untold < 1000 {
		t.Errorf("%d are nothing, %d the whole, %d reduced, %d need not be, %d are not told", nothing, whole, reduced, kept, untold)
	}
}

func TestNothingIsGivenOfOthers(t *testing.T) {
	eachInvalidMeasured(func(m []int, a int, b int) {
		checkGiven(t, m, a, b, 0, 0)
	})
}

func TestPromise45PricesGivenEventsAreMultipliedAlongChains(t *testing.T) {
	draw, chains := drawer(45), 0
	eachGiven(func(m []int, a int, b int) {
		worlds := len(m)
		over, under, ok := impl.GivenBy(m, a, b)
		other, otherUnder, otherOk := impl.GivenBy(m, impl.NotEvent(worlds, a), b)
		if ok != (impl.GrainsOn(m, b) > 0) || ok != otherOk {
			t.Fatalf("%v: given %d, which has %d grains, it is told of %d: %t, and of its other: %t", m, b, impl.GrainsOn(m, b), a, ok, otherOk)
		}
		if !ok {
			return
		}
		// Both fractions are in least terms and together the whole: so they have the same second number.
		if under != otherUnder || over+other != under {
			t.Fatalf("%v: given %d, %d has %d/%d, and its other %d/%d", m, b, a, over, under, other, otherUnder)
		}
		drawn := draw(countOfEvents[worlds])
		chain, chainUnder, _ := impl.GivenBy(m, commonEvents[drawn][a], b)
		next, nextUnder, ok := impl.GivenBy(m, drawn, commonEvents[a][b])
		if ok != (over > 0) {
			t.Fatalf("%v: given %d and %d it is told: %t, but the first given the second is %d/%d", m, a, b, ok, over, under)
		}
		if !ok {
			return
		}
		if chain*under*nextUnder != over*next*chainUnder {
			t.Fatalf("%v: of %d and %d given %d it is %d/%d, but %d/%d times %d/%d", m, drawn, a, b, chain, chainUnder, over, under, next, nextUnder)
		}
		if 0 < next && next < nextUnder && 0 < over && over < under {
			chains++
		}
	})
	if chains < 10000 {
		t.Errorf("%d chains have two prices between nothing and the whole", chains)
	}
}

func TestGainsOfSomeCalledBets(t *testing.T) {
	for _, c := range []struct {
		worlds, a, b, price int
		want                []int
	}{
		{1, 1, 1, 2, []int{4}},
		{1, 0, 1, 2, []int{-2}},
		{1, 1, 0, 2, []int{0}},
		{1, 0, 0, 2, []int{0}},
		{1, 1, 1, 0, []int{6}},
		{1, 1, 1, 6, []int{0}},
		{1, 0, 1, 6, []int{-6}},
		{1, 0, 1, 0, []int{0}},
		{2, 1, 3, 2, []int{4, -2}},
		{2, 1, 2, 2, []int{0, -2}},
		{2, 2, 2, 2, []int{0, 4}},
		{3, 1, 3, 4, []int{2, -4, 0}},
		{3, 1, 3, 0, []int{6, 0, 0}},
		{3, 1, 3, 6, []int{0, -6, 0}},
		{3, 4, 3, 4, []int{-4, -4, 0}},
		{3, 7, 3, 4, []int{2, 2, 0}},
		{3, 3, 3, 4, []int{2, 2, 0}},
		{3, 5, 6, 1, []int{0, -1, 5}},
		{3, 5, 7, 1, []int{5, -1, 5}}, // never called off
		{3, 5, 0, 1, []int{0, 0, 0}},  // always called off
		{3, 0, 5, 3, []int{-3, 0, -3}},
		{4, 10, 12, 5, []int{0, 0, -5, 1}},
		{4, 8, 15, 3, []int{-3, -3, -3, 3}},
		{4, 15, 15, 6, []int{0, 0, 0, 0}},
		{4, 15, 15, 0, []int{6, 6, 6, 6}},
		{4, 15, 9, 2, []int{4, 0, 0, 4}},
		{4, 0, 15, 6, []int{-6, -6, -6, -6}},
		{4, 0, 0, 6, []int{0, 0, 0, 0}},
		{0, 0, 0, 0, nil},
		{5, 0, 0, 0, nil},
		{5, 1, 3, 4, nil},
		{-1, 0, 0, 0, nil},
		{3, 8, 3, 4, nil},
		{3, 1, 8, 4, nil},
		{3, 9, 3, 4, nil},
		{3, -1, 3, 4, nil},
		{3, 1, -1, 4, nil},
		{3, 1, 3, -1, nil},
		{3, 1, 3, 7, nil},
		{3, 1, 0, 7, nil},
		{math.MaxInt, 1, 3, 4, nil},
		{3, math.MinInt, 3, 4, nil},
		{3, 1, math.MaxInt, 4, nil},
		{3, 1, 3, math.MinInt, nil},
	} {
		if got := impl.CalledGain(c.worlds, c.a, c.b, c.price); !slices.Equal(got, c.want) {
			t.Errorf("CalledGain(%d, %d, %d, %d) = %v, not %v", c.worlds, c.a, c.b, c.price, got, c.want)
		}
	}
}

// eachCalled calls a function with all bets of an event given another one, of 1..4 worlds.
func eachCalled(do func(worlds int, a int, b int, price int)) {
	for worlds := 1; worlds <= 4; worlds++ {
		for a := range countOfEvents[worlds] {
			for b := range countOfEvents[worlds] {
				for _, price := range prices {
					do(worlds, a, b, price)
				}
			}
		}
	}
}

func TestPromise46CalledOffItBringsNothing(t *testing.T) {
	eachCalled(func(worlds int, a int, b int, price int) {
		gain := impl.CalledGain(worlds, a, b, price)
		if !slices.Equal(gain, calledOff(worlds, a, b, price)) || !impl.GambleOk(gain) {
			t.Fatalf("CalledGain(%d, %d, %d, %d) = %v", worlds, a, b, price, gain)
		}
		for world, in := range setOf(worlds, b) {
			if !in && gain[world] != 0 {
				t.Fatalf("CalledGain(%d, %d, %d, %d) = %v, which is not called off in world %d", worlds, a, b, price, gain, world)
			}
		}
		if bet := impl.GainOf(worlds, impl.Quote{Event: a, Price: price}, 1); b == countOfEvents[worlds]-1 && !slices.Equal(gain, bet) {
			t.Fatalf("CalledGain(%d, %d, %d, %d) = %v, but the bet itself is %v", worlds, a, b, price, gain, bet)
		}
		other := impl.CalledGain(worlds, impl.NotEvent(worlds, a), b, impl.Whole-price)
		if turned, ok := impl.TimesGamble(gain, -1); !ok || !slices.Equal(other, turned) {
			t.Fatalf("%d worlds: %d given %d at %d brings %v, and its other %v", worlds, a, b, price, gain, other)
		}
	})
}

func TestOtherCalledBetsBringNothing(t *testing.T) {
	checkNone := func(worlds int, a int, b int, price int) {
		t.Helper()
		if gain := impl.CalledGain(worlds, a, b, price); len(gain) != 0 {
			t.Fatalf("CalledGain(%d, %d, %d, %d) = %v", worlds, a, b, price, gain)
		}
	}
	eachPair(func(worlds int, a int, b int) {
		if !isEvent(worlds, a) || !isEvent(worlds, b) {
			for _, price := range append(slices.Clone(prices), badPrices...) {
				checkNone(worlds, a, b, price)
			}
			return
		}
		for _, price := range badPrices {
			checkNone(worlds, a, b, price)
		}
	})
}

func TestWhatFitsSomeCalledPrices(t *testing.T) {
	for _, c := range []struct {
		m      []int
		a, b   int
		prices []int // all that fit
	}{
		{[]int{36}, 1, 1, []int{6}},
		{[]int{36}, 0, 1, []int{0}},
		{[]int{36}, 1, 0, prices}, // always called off
		{[]int{36}, 0, 0, prices},
		{[]int{36, 0}, 1, 2, prices}, // called off by all grains
		{[]int{36, 0}, 2, 2, prices},
		{[]int{36, 0}, 1, 3, []int{6}},
		{[]int{36, 0}, 2, 3, []int{0}},
		{[]int{12, 6, 18}, 1, 3, []int{4}},
		{[]int{12, 6, 18}, 2, 3, []int{2}},
		{[]int{12, 6, 18}, 4, 3, []int{0}},
		{[]int{12, 6, 18}, 3, 3, []int{6}},
		{[]int{12, 6, 18}, 7, 3, []int{6}},
		{[]int{12, 6, 18}, 5, 7, []int{5}},
		{[]int{12, 6, 18}, 5, 6, nil}, // three fourths are no whole sixths
		{[]int{12, 6, 18}, 5, 0, prices},
		{[]int{12, 7, 17}, 1, 3, nil},
		{[]int{11, 6, 19}, 1, 3, nil},
		{[]int{1, 5, 25, 5}, 1, 3, []int{1}},
		{[]int{1, 5, 25, 5}, 2, 3, []int{5}},
		{[]int{1, 5, 25, 5}, 4, 12, []int{5}},
		{[]int{13, 13, 10, 0}, 1, 3, []int{3}},
		{[]int{9, 9, 9, 9}, 1, 7, []int{2}},
		{[]int{9, 9, 9, 9}, 1, 15, nil},
		{[]int{0, 0, 0, 36}, 8, 15, []int{6}},
		{[]int{0, 0, 0, 36}, 7, 15, []int{0}},
		{[]int{0, 0, 0, 36}, 8, 7, prices},
		{[]int{12, 6, 17}, 1, 3, nil}, // no measures
		{[]int{12, 6, 19}, 1, 3, nil},
		{[]int{37, -1}, 1, 3, nil},
		{[]int{37, -1}, 1, 0, nil},
		{[]int{0, 0}, 1, 3, nil},
		{[]int{36, 0, 0, 0, 0}, 1, 1, nil},
		{nil, 0, 0, nil},
		{[]int{12, 6, 18}, -1, 3, nil}, // no events
		{[]int{12, 6, 18}, 1, -1, nil},
		{[]int{12, 6, 18}, 9, 3, nil},
		{[]int{12, 6, 18}, 1, 11, nil},
		{[]int{12, 6, 18}, 1, 8, nil},
		{[]int{12, 6, 18}, math.MaxInt, 0, nil},
		{[]int{12, 6, 18}, 0, math.MinInt, nil},
	} {
		for _, price := range append(slices.Clone(prices), badPrices...) {
			if got := impl.FitsCalled(c.m, c.a, c.b, price); got != slices.Contains(c.prices, price) {
				t.Errorf("FitsCalled(%v, %d, %d, %d) = %t", c.m, c.a, c.b, price, got)
			}
		}
	}
}

func TestPromise47JustAtItsPriceACalledBetBringsNothing(t *testing.T) {
	gains := map[[4]int][]int{}
	eachCalled(func(worlds int, a int, b int, price int) {
		gains[[4]int{worlds, a, b, price}] = impl.CalledGain(worlds, a, b, price)
	})
	fitting := map[int]int{}
	eachGiven(func(m []int, a int, b int) {
		over, under, told := impl.GivenBy(m, a, b)
		for _, price := range prices {
			got := impl.FitsCalled(m, a, b, price)
			if told != (onEvent(m, b) > 0) || told && got != (price*under == 6*over) {
				t.Fatalf("FitsCalled(%v, %d, %d, %d) = %t, but it is %d/%d, told: %t", m, a, b, price, got, over, under, told)
			}
			if want := 6*onEvent(m, commonEvents[a][b]) == price*onEvent(m, b); got != want {
				t.Fatalf("FitsCalled(%v, %d, %d, %d) = %t", m, a, b, price, got)
			}
			gain := gains[[4]int{len(m), a, b, price}]
			if brings, ok := impl.BringsBy(m, gain); !ok || got != (brings == 0) {
				t.Fatalf("FitsCalled(%v, %d, %d, %d) = %t, but %v brings %d", m, a, b, price, got, gain, brings)
			}
			if told && got {
				fitting[price]++
			}
		}
	})
	for _, price := range prices {
		if fitting[price] < 1000 {
			t.Errorf("the price %d fits %d times", price, fitting[price])
		}
	}
}

func TestNothingFitsOtherCalledPrices(t *testing.T) {
	checkNot := func(m []int, a int, b int, price int) {
		t.Helper()
		if impl.FitsCalled(m, a, b, price) {
			t.Fatalf("FitsCalled(%v, %d, %d, %d) = true", m, a, b, price)
		}
	}
	eachInvalidMeasured(func(m []int, a int, b int) {
		for _, price := range []int{0, 1, 3, 6, -1, 7, math.MinInt, math.MaxInt} {
			checkNot(m, a, b, price)
		}
	})
	for _, m := range givenMeasures {
		for a := range countOfEvents[len(m)] {
			for b := range countOfEvents[len(m)] {
				for _, price := range badPrices {
					checkNot(m, a, b, price)
				}
			}
		}
	}
}

func TestWhatSomeEventsLeave(t *testing.T) {
	for _, c := range []struct {
		m     []int
		event int
		want  []int
	}{
		{[]int{36}, 1, []int{1}},
		{[]int{36}, 0, nil},
		{[]int{36, 0}, 1, []int{1, 0}},
		{[]int{36, 0}, 3, []int{1, 0}},
		{[]int{36, 0}, 2, nil},
		{[]int{36, 0}, 0, nil},
		{[]int{35, 1}, 3, []int{35, 1}},
		{[]int{35, 1}, 1, []int{1, 0}}, // grains left on one world alone
		{[]int{35, 1}, 2, []int{0, 1}},
		{[]int{12, 6, 18}, 5, []int{2, 0, 3}},
		{[]int{12, 6, 18}, 3, []int{2, 1, 0}},
		{[]int{12, 6, 18}, 6, []int{0, 1, 3}},
		{[]int{12, 6, 18}, 7, []int{2, 1, 3}}, // it always comes true
		{[]int{12, 6, 18}, 4, []int{0, 0, 1}},
		{[]int{12, 6, 18}, 0, nil},
		{[]int{6, 10, 20}, 7, []int{3, 5, 10}},
		{[]int{6, 10, 20}, 6, []int{0, 1, 2}},
		{[]int{6, 15, 15}, 7, []int{2, 5, 5}},
		{[]int{6, 15, 10, 5}, 7, []int{6, 15, 10, 0}}, // each two have a common divisor, but not all three
		{[]int{6, 15, 10, 5}, 14, []int{0, 3, 2, 1}},
		{[]int{6, 15, 10, 5}, 15, []int{6, 15, 10, 5}},
		{[]int{6, 15, 10, 5}, 5, []int{3, 0, 5, 0}},
		{[]int{9, 9, 9, 9}, 15, []int{1, 1, 1, 1}},
		{[]int{9, 9, 9, 9}, 10, []int{0, 1, 0, 1}},
		{[]int{0, 9, 0, 27}, 15, []int{0, 1, 0, 3}},
		{[]int{0, 9, 0, 27}, 9, []int{0, 0, 0, 1}},
		{[]int{0, 9, 0, 27}, 5, nil},
		{[]int{1, 2, 4, 29}, 6, []int{0, 1, 2, 0}},
		{[]int{1, 2, 4, 29}, 12, []int{0, 0, 4, 29}},
		{[]int{0, 0, 0, 36}, 15, []int{0, 0, 0, 1}},
		{[]int{0, 0, 0, 36}, 7, nil},
		{[]int{12, 6, 17}, 5, nil}, // no measures
		{[]int{12, 6, 19}, 5, nil},
		{[]int{-1, 37}, 2, nil},
		{[]int{37, -1}, 1, nil},
		{[]int{0, 0, 0}, 7, nil},
		{[]int{36, 0, 0, 0, 0}, 1, nil},
		{[]int{}, 0, nil},
		{nil, 0, nil},
		{[]int{12, 6, 18}, -1, nil}, // no events
		{[]int{12, 6, 18}, 8, nil},
		{[]int{12, 6, 18}, 13, nil},
		{[]int{12, 6, 18}, math.MinInt, nil},
		{[]int{12, 6, 18}, math.MaxInt, nil},
		{[]int{math.MaxInt, math.MaxInt, 38}, 7, nil},
		{[]int{math.MinInt, math.MinInt, 36}, 4, nil},
	} {
		if left, ok := impl.AfterEvent(c.m, c.event); ok != (c.want != nil) || !slices.Equal(left, c.want) {
			t.Errorf("AfterEvent(%v, %d) = %v, %t, not %v", c.m, c.event, left, ok, c.want)
		}
	}
}

// checkLeft tests what promise 48 says of the grains that an event leaves of a measure.
func checkLeft(t *testing.T, m []int, event int, left []int) {
	t.Helper()
	on := setOf(len(m), event)
	for one, in := range on {
		if !in && left[one] != 0 {
			t.Fatalf("AfterEvent(%v, %d) = %v, with grains on world %d", m, event, left, one)
		}
		for other := range on {
			if in && on[other] && left[one]*m[other] != left[other]*m[one] {
				t.Fatalf("AfterEvent(%v, %d) = %v: the worlds %d and %d do not go as before", m, event, left, one, other)
			}
		}
	}
}

func TestPromise48GrainsThatAreLeftGoAsBefore(t *testing.T) {
	alone, divided, undivided, none := 0, 0, 0, 0
	for worlds := 1; worlds <= impl.MaxWorlds; worlds++ {
		for _, m := range allMeasures[worlds] {
			for event := range countOfEvents[worlds] {
				left, ok := impl.AfterEvent(m, event)
				want := leftBy(m, event)
				if ok != (want != nil) || ok != (impl.GrainsOn(m, event) > 0) || !slices.Equal(left, want) {
					t.Fatalf("AfterEvent(%v, %d) = %v, %t, not %v", m, event, left, ok, want)
				}
				if !ok {
					none++
					continue
				}
				checkLeft(t, m, event, left)
				switch sum := onEvent(left, event); {
				case slices.Contains(left, sum):
					alone++
				case sum < onEvent(m, event):
					divided++
				default:
					undivided++
				}
			}
		}
	}
	if alone < 1000 || divided < 1000 || undivided < 1000 || none < 1000 {
		t.Errorf("%d leave one world, %d are divided, %d need not be, %d leave nothing", alone, divided, undivided, none)
	}
}

// TestWhatIsLeftTellsPricesGivenTheEvent: the price of an event given another one is the part that it has of what that leaves.
func TestWhatIsLeftTellsPricesGivenTheEvent(t *testing.T) {
	for worlds := 1; worlds <= impl.MaxWorlds; worlds++ {
		for _, m := range allMeasures[worlds] {
			for event := range countOfEvents[worlds] {
				left, ok := impl.AfterEvent(m, event)
				for a := range countOfEvents[worlds] {
					if !ok {
						checkGiven(t, m, a, event, 0, 0)
						continue
					}
					over, under := fractionOf(onEvent(left, a), onEvent(left, event))
					checkGiven(t, m, a, event, over, under)
				}
			}
		}
	}
}

func TestOthersLeaveNothing(t *testing.T) {
	eachInvalidMeasured(func(m []int, a int, b int) {
		for _, event := range []int{a, b} {
			if isMeasure(m) && isEvent(len(m), event) {
				continue
			}
			if left, ok := impl.AfterEvent(m, event); ok || len(left) != 0 {
				t.Fatalf("AfterEvent(%v, %d) = %v, %t", m, event, left, ok)
			}
		}
	})
}

func TestPromise49APriceIsMadeOfPricesGivenParts(t *testing.T) {
	both := 0
	eachGiven(func(m []int, a int, b int) {
		sum, parts := 0, 0
		for _, part := range []int{b, impl.NotEvent(len(m), b)} {
			over, under, ok := impl.GivenBy(m, a, part)
			if !ok {
				continue
			}
			grains := impl.GrainsOn(m, part)
			if grains%under != 0 {
				t.Fatalf("GivenBy(%v, %d, %d) = %d, %d, which is no part of %d grains", m, a, part, over, under, grains)
			}
			sum += grains / under * over
			parts++
		}
		if sum != impl.GrainsOn(m, a) || sum != onEvent(m, a) {
			t.Fatalf("%v: on %d are %d grains, but by the parts %d and its other %d", m, a, onEvent(m, a), b, sum)
		}
		if parts == 0 {
			t.Fatalf("%v: nothing is told given %d, nor given its other", m, b)
		}
		if parts == 2 {
			both++
		}
	})
	if both < 10000 {
		t.Errorf("%d times it is told given an event and given its other", both)
	}
}

func TestPromise50GivenEachOtherEventsGoByTheirOwnPrices(t *testing.T) {
	both := 0
	eachGiven(func(m []int, a int, b int) {
		over, under, ok := impl.GivenBy(m, a, b)
		turned, turnedUnder, turnedOk := impl.GivenBy(m, b, a)
		if !ok || !turnedOk {
			if ok == (impl.GrainsOn(m, b) == 0) || turnedOk == (impl.GrainsOn(m, a) == 0) {
				t.Fatalf("%v: it is told of %d given %d: %t, and the other way round: %t", m, a, b, ok, turnedOk)
			}
			return
		}
		if over*impl.GrainsOn(m, b)*turnedUnder != turned*impl.GrainsOn(m, a)*under {
			t.Fatalf("%v: %d given %d is %d/%d, and the other way round %d/%d", m, a, b, over, under, turned, turnedUnder)
		}
		if over > 0 && a != b {
			both++
		}
	})
	if both < 10000 {
		t.Errorf("%d pairs are given each other at more than nothing", both)
	}
}

func TestCalledBetsAreNewMemory(t *testing.T) {
	eachCalled(func(worlds int, a int, b int, price int) {
		checkNewMemory(t, []int{price, 9, 9, 9, 9}, 1, func(row []int) []int {
			return impl.CalledGain(worlds, a, b, row[0])
		})
	})
	for _, m := range givenMeasures {
		room := append(slices.Clone(m), 9, 9, 9, 9)
		for event := range countOfEvents[len(m)] {
			if onEvent(m, event) == 0 {
				continue
			}
			checkNewMemory(t, room, len(m), func(row []int) []int {
				left, _ := impl.AfterEvent(row, event)
				return left
			})
		}
	}
	// What is left of such measures is what they were: also then it is a copy.
	checkNewMemory(t, []int{35, 1, 9, 9, 9, 9}, 2, func(row []int) []int {
		left, _ := impl.AfterEvent(row, 3)
		return left
	})
	checkNewMemory(t, []int{6, 15, 10, 5, 9, 9, 9, 9}, 4, func(row []int) []int {
		left, _ := impl.AfterEvent(row, 15)
		return left
	})
}

// TestGivenEventsOnlyRead: no function of the chapter writes to a measure, or to the room behind it, also not for calls that have no result.
func TestGivenEventsOnlyRead(t *testing.T) {
	for _, grains := range [][]int{
		{36, 0, 0, 0, 0, 9},
		{0, 36, 0, 0, 0, 9},
		{12, 6, 18, 0, 0, 9},
		{6, 15, 10, 5, 0, 9},
		{12, 6, 17, 0, 1, 9},
		{-1, 37, 0, 0, 0, 9},
		{math.MaxInt, math.MaxInt, 38, 0, math.MinInt, 9},
	} {
		row := slices.Clone(grains)
		for length := range len(row) + 1 {
			for a := -1; a <= 16; a++ {
				for b := -1; b <= 16; b++ {
					impl.GivenBy(row[:length], a, b)
					for price := -1; price <= 7; price++ {
						impl.FitsCalled(row[:length], a, b, price)
					}
				}
				impl.AfterEvent(row[:length], a)
			}
		}
		if !slices.Equal(row, grains) {
			t.Errorf("%v was written to: %v", grains, row)
		}
	}
}
