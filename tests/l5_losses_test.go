package tests

import (
	"math"
	"slices"
	"testing"

	"loop.example/fairbooks/impl"
)

// triedStakes has, by the number of quotes, all rows of stakes that are tried, in their order.
var triedStakes = map[int][][]int{0: stakesBySum(0), 1: stakesBySum(1), 2: stakesBySum(2), 3: stakesBySum(3)}

// withoutSigns returns the sum of a row without signs.
func withoutSigns(row []int) int {
	sum := 0
	for _, number := range row {
		if number < 0 {
			number = -number
		}
		sum += number
	}
	return sum
}

// stakesBySum returns all rows of so many stakes that are tried. The rows are made with lesser stakes first, which stays so within a sum.
func stakesBySum(count int) [][]int {
	rows := rowsOf(count, []int{-2, -1, 0, 1, 2})
	slices.SortStableFunc(rows, func(a []int, b []int) int { return withoutSigns(a) - withoutSigns(b) })
	return rows
}

// losesEverywhere tells by the bets themselves whether valid stakes lose in each world.
func losesEverywhere(worlds int, book []impl.Quote, stakes []int) bool {
	return !slices.ContainsFunc(balance(worlds, book, stakes), func(amount int) bool { return amount >= 0 })
}

// firstLosing tells what LosingStakes has to return for a book.
func firstLosing(worlds int, book []impl.Quote) ([]int, bool) {
	return firstTried(len(book), func(stakes []int) bool { return losesEverywhere(worlds, book, stakes) })
}

// firstTried returns the first row of so many stakes that are tried for which a test holds.
func firstTried(count int, holds func(stakes []int) bool) ([]int, bool) {
	if at := slices.IndexFunc(triedStakes[count], holds); at >= 0 {
		return triedStakes[count][at], true
	}
	return nil, false
}

// onePricedTwice returns all books of two quotes for one event of so many worlds, at any two prices.
func onePricedTwice(worlds int) [][]impl.Quote {
	var list [][]impl.Quote
	for event := range countOfEvents[worlds] {
		for _, first := range prices {
			for _, second := range prices {
				list = append(list, []impl.Quote{{Event: event, Price: first}, {Event: event, Price: second}})
			}
		}
	}
	return list
}

// eachLossBook calls a function with the tested books of 1..4 worlds, with those of edge quotes, and with two prices for each event.
func eachLossBook(do func(worlds int, book []impl.Quote)) {
	eachTested(do)
	for worlds := 1; worlds <= 4; worlds++ {
		for _, book := range someBooks(worlds) {
			do(worlds, book)
		}
		for _, book := range onePricedTwice(worlds) {
			do(worlds, book)
		}
	}
}

// nearer returns a row with the number at a place, which is not 0, nearer to 0 by one.
func nearer(row []int, at int) []int {
	other := slices.Clone(row)
	if other[at] > 0 {
		other[at]--
	} else {
		other[at]++
	}
	return other
}

func TestBoundOfTriedStakes(t *testing.T) {
	if impl.MaxSure != 2 {
		t.Fatalf("MaxSure = %d", impl.MaxSure)
	}
}

func TestStakesThatLoseInSomeBooks(t *testing.T) {
	two := []impl.Quote{{Event: 3, Price: 1}, {Event: 1, Price: 2}}
	never, always := impl.Quote{Event: 0, Price: 1}, impl.Quote{Event: 15, Price: 5}
	for _, c := range []struct {
		worlds int
		book   []impl.Quote
		stakes []int
		want   bool
	}{
		{3, two, []int{-1, 1}, true},
		{3, two, []int{1, -1}, false},
		{3, two, []int{-2, 2}, true},
		{3, two, []int{-3, 3}, true},
		{3, two, []int{-9, 9}, true},
		{3, two, []int{-10, 10}, false},
		{3, two, []int{-2, 1}, false}, // in the world 2 it brings nothing
		{3, two, []int{-3, 2}, true},
		{3, two, []int{0, 0}, false},
		{3, two, []int{-1}, false},
		{3, two, []int{-1, 1, 0}, false},
		{3, two, nil, false},
		{2, two, []int{-1, 1}, true},
		{1, two, []int{-1, 1}, false}, // one world has no event 3
		{1, nil, nil, false},
		{4, nil, nil, false},
		{4, nil, []int{0}, false},
		{4, nil, []int{1}, false},
		{4, []impl.Quote{never}, []int{1}, true},
		{4, []impl.Quote{never}, []int{9}, true},
		{4, []impl.Quote{never}, []int{10}, false},
		{4, []impl.Quote{never}, []int{-1}, false},
		{4, []impl.Quote{never}, []int{0}, false},
		{4, []impl.Quote{{Event: 0, Price: 0}}, []int{1}, false},
		{4, []impl.Quote{{Event: 0, Price: 0}}, []int{-1}, false},
		{4, []impl.Quote{{Event: 0, Price: 6}}, []int{1}, true},
		{4, []impl.Quote{always}, []int{-1}, true},
		{4, []impl.Quote{always}, []int{-9}, true},
		{4, []impl.Quote{always}, []int{-10}, false},
		{4, []impl.Quote{always}, []int{1}, false},
		{4, []impl.Quote{{Event: 15, Price: 6}}, []int{-1}, false},
		{4, []impl.Quote{{Event: 15, Price: 6}}, []int{1}, false},
		{4, []impl.Quote{{Event: 15, Price: 0}}, []int{-1}, true},
		{1, []impl.Quote{{Event: 1, Price: 5}}, []int{-1}, true},
		{1, []impl.Quote{{Event: 1, Price: 6}}, []int{-1}, false},
		{1, []impl.Quote{{Event: 0, Price: 1}}, []int{1}, true},
		{4, []impl.Quote{never, always, never}, []int{9, -9, 9}, true},
		{4, []impl.Quote{never, always, never}, []int{-9, 9, -9}, false},
		{4, []impl.Quote{never, always, never, never}, []int{9, -9, 9, 9}, false},
		{4, []impl.Quote{never, {Event: 16, Price: 5}}, []int{1, 0}, false},
		{4, []impl.Quote{never, {Event: 1, Price: 7}}, []int{1, 0}, false},
		{4, []impl.Quote{{Event: 0, Price: 7}}, []int{1}, false},
		{0, []impl.Quote{never}, []int{1}, false},
		{5, []impl.Quote{never}, []int{1}, false},
		{0, nil, nil, false},
		{5, nil, nil, false},
	} {
		if got := impl.LosesBy(c.worlds, c.book, c.stakes); got != c.want {
			t.Errorf("LosesBy(%d, %v, %v) = %t", c.worlds, c.book, c.stakes, got)
		}
	}
}

// TestStakesLoseInAllWorlds: what wins, or loses nothing, in one world only does not surely lose, whichever world that is.
func TestStakesLoseInAllWorlds(t *testing.T) {
	for worlds := 2; worlds <= impl.MaxWorlds; worlds++ {
		for world := range worlds {
			event := 1 << world
			others := countOfEvents[worlds] - 1 - event
			for _, c := range []struct {
				book   []impl.Quote
				stakes []int
				want   bool
			}{
				{[]impl.Quote{{Event: event, Price: 6}}, []int{1}, false},   // nothing in this world
				{[]impl.Quote{{Event: event, Price: 5}}, []int{1}, false},   // one in this world
				{[]impl.Quote{{Event: others, Price: 0}}, []int{-1}, false}, // nothing in this world
				{[]impl.Quote{{Event: others, Price: 1}}, []int{-9}, false}, // nine in this world
				{[]impl.Quote{{Event: event, Price: 6}, {Event: 0, Price: 1}}, []int{1, 1}, true},
				{[]impl.Quote{{Event: event, Price: 5}, {Event: 0, Price: 1}}, []int{1, 1}, false},
				{[]impl.Quote{{Event: event, Price: 5}, {Event: 0, Price: 1}}, []int{1, 2}, true},
				{[]impl.Quote{{Event: event, Price: 6}, {Event: 0, Price: 0}}, []int{1, 9}, false},
				{[]impl.Quote{{Event: event, Price: 5}, {Event: others, Price: 2}}, []int{1, 1}, true},
				{[]impl.Quote{{Event: event, Price: 5}, {Event: others, Price: 1}}, []int{1, 1}, false},
			} {
				if got := impl.LosesBy(worlds, c.book, c.stakes); got != c.want {
					t.Errorf("LosesBy(%d, %v, %v) = %t", worlds, c.book, c.stakes, got)
				}
			}
		}
	}
}

func TestStakesLoseByTheirBalance(t *testing.T) {
	check := func(worlds int, book []impl.Quote, stakes []int) {
		if got := impl.LosesBy(worlds, book, stakes); got != losesEverywhere(worlds, book, stakes) {
			t.Fatalf("LosesBy(%d, %v, %v) = %t", worlds, book, stakes, got)
		}
	}
	eachBalance(check)
	for worlds := 1; worlds <= impl.MaxWorlds; worlds++ {
		for _, q := range quotesOf(worlds) {
			for _, stake := range allStakes() {
				check(worlds, []impl.Quote{q}, []int{stake})
			}
		}
	}
}

func TestPromise26WhatSurelyLosesHasNoMeasure(t *testing.T) {
	draw, losing := drawer(26), 0
	eachLossBook(func(worlds int, book []impl.Quote) {
		fair := impl.FairOk(worlds, book)
		for _, stakes := range append(someStakes(draw, len(book)), triedStakes[len(book)]...) {
			if !impl.LosesBy(worlds, book, stakes) {
				continue
			}
			losing++
			if fair {
				t.Fatalf("%d worlds: %v is fair, but %v surely lose", worlds, book, stakes)
			}
			won, ok := impl.BalanceOf(worlds, book, otherSigns(stakes))
			if worst, worstOk := impl.WorstOf(won); !ok || !worstOk || worst <= 0 || impl.LosesBy(worlds, book, otherSigns(stakes)) {
				t.Fatalf("%d worlds: %v surely lose in %v, but with all signs exchanged they bring %v", worlds, stakes, book, won)
			}
		}
	})
	if losing < 1000 {
		t.Errorf("%d rows of stakes surely lose", losing)
	}
	for _, worlds := range worldNumbers {
		if countOfEvents[worlds] == 0 && (impl.LosesBy(worlds, nil, nil) || impl.LosesBy(worlds, []impl.Quote{{Price: 1}}, []int{1})) {
			t.Errorf("%d worlds: stakes surely lose", worlds)
		}
	}
}

func TestNoStakesLoseInOtherBooks(t *testing.T) {
	eachInvalidBook(func(worlds int, book []impl.Quote) {
		for _, stake := range []int{-1, 0, 1} {
			if stakes := slices.Repeat([]int{stake}, len(book)); impl.LosesBy(worlds, book, stakes) {
				t.Fatalf("LosesBy(%d, %v, %v) = true", worlds, book, stakes)
			}
		}
		if impl.LosesBy(worlds, book, nil) {
			t.Fatalf("LosesBy(%d, %v, nothing) = true", worlds, book)
		}
	})
	for worlds := 1; worlds <= impl.MaxWorlds; worlds++ {
		for _, bad := range badPrices {
			for _, stake := range []int{-1, 1} {
				for _, event := range []int{0, countOfEvents[worlds] - 1} {
					if book := []impl.Quote{{Price: 1}, {Event: event, Price: bad}}; impl.LosesBy(worlds, book, []int{1, stake}) {
						t.Errorf("LosesBy(%d, %v, {1 %d}) = true", worlds, book, stake)
					}
				}
			}
		}
		for _, quotes := range []int{4, 5, 64, 1000} {
			if impl.LosesBy(worlds, slices.Repeat([]impl.Quote{{Price: 1}}, quotes), slices.Repeat([]int{1}, quotes)) {
				t.Errorf("%d worlds: stakes surely lose in a book of %d quotes", worlds, quotes)
			}
		}
	}
}

// TestOtherStakesDoNotLose: a book in which any stakes of more than nothing surely lose, and one in which any of less than nothing do.
func TestOtherStakesDoNotLose(t *testing.T) {
	for worlds := 1; worlds <= impl.MaxWorlds; worlds++ {
		for stake, q := range map[int]impl.Quote{1: {Event: 0, Price: 6}, -1: {Event: countOfEvents[worlds] - 1, Price: 0}} {
			for quotes := 1; quotes <= impl.MaxQuotes; quotes++ {
				book, row := slices.Repeat([]impl.Quote{q}, quotes), slices.Repeat([]int{stake}, quotes)
				if !impl.LosesBy(worlds, book, row) {
					t.Errorf("LosesBy(%d, %v, %v) = false", worlds, book, row)
				}
				for count := range 6 {
					if other := slices.Repeat([]int{stake}, count); count != quotes && impl.LosesBy(worlds, book, other) {
						t.Errorf("LosesBy(%d, %v, %v) = true", worlds, book, other)
					}
				}
				for at := range quotes {
					for _, bad := range badStakes {
						other := slices.Clone(row)
						other[at] = bad
						if impl.LosesBy(worlds, book, other) {
							t.Errorf("LosesBy(%d, %v, %v) = true", worlds, book, other)
						}
					}
				}
			}
		}
	}
}

func TestLosingStakesOfSomeBooks(t *testing.T) {
	never, always := impl.Quote{Event: 0, Price: 1}, impl.Quote{Event: 15, Price: 5}
	for _, c := range []struct {
		worlds int
		book   []impl.Quote
		want   []int
		loss   int
		safe   bool
	}{
		{1, nil, nil, 0, true},
		{4, nil, nil, 0, true},
		{4, []impl.Quote{}, nil, 0, true},
		{4, []impl.Quote{never}, []int{1}, 1, false},
		{4, []impl.Quote{{Event: 0, Price: 6}}, []int{1}, 6, false},
		{4, []impl.Quote{{Event: 0, Price: 0}}, nil, 0, true},
		{4, []impl.Quote{always}, []int{-1}, 1, false},
		{4, []impl.Quote{{Event: 15, Price: 0}}, []int{-1}, 6, false},
		{4, []impl.Quote{{Event: 15, Price: 6}}, nil, 0, true},
		{4, []impl.Quote{{Event: 7, Price: 0}}, nil, 0, true},
		{4, []impl.Quote{{Event: 7, Price: 6}}, nil, 0, true},
		{1, []impl.Quote{{Event: 1, Price: 2}}, []int{-1}, 4, false},
		{1, []impl.Quote{{Event: 0, Price: 2}}, []int{1}, 2, false},
		// Of two or three stakes alone that surely lose the first ones have the least stake at the first place.
		{4, []impl.Quote{never, never}, []int{0, 1}, 1, false},
		{4, []impl.Quote{always, always}, []int{-1, 0}, 1, false},
		{4, []impl.Quote{never, always}, []int{0, -1}, 1, false},
		{4, []impl.Quote{always, never}, []int{-1, 0}, 1, false},
		{4, []impl.Quote{never, never, never}, []int{0, 0, 1}, 1, false},
		{4, []impl.Quote{always, always, always}, []int{-1, 0, 0}, 1, false},
		{4, []impl.Quote{never, always, never}, []int{0, -1, 0}, 1, false},
		{4, []impl.Quote{{Event: 0, Price: 6}, never, never}, []int{0, 0, 1}, 1, false},
		{4, []impl.Quote{{Event: 0, Price: 6}, {}, {}}, []int{1, 0, 0}, 6, false},
		// Of some pairs that lose the first ones are taken, whether or not others lose more.
		{3, []impl.Quote{{Event: 1, Price: 2}, {Event: 1, Price: 3}, {Event: 1, Price: 4}}, []int{-1, 0, 1}, 2, false},
		{3, []impl.Quote{{Event: 1, Price: 3}, {Event: 1, Price: 2}, {Event: 1, Price: 4}}, []int{-1, 0, 1}, 1, false},
		{3, []impl.Quote{{Event: 1, Price: 2}, {Event: 1, Price: 4}, {Event: 1, Price: 2}}, []int{-1, 1, 0}, 2, false},
		{3, []impl.Quote{{Event: 1, Price: 4}, {Event: 1, Price: 3}, {Event: 1, Price: 2}}, []int{0, 1, -1}, 1, false},
		{2, []impl.Quote{{Event: 1, Price: 2}, {Event: 2, Price: 3}}, []int{-1, -1}, 1, false},
		{2, []impl.Quote{{Event: 1, Price: 5}, {Event: 2, Price: 3}}, []int{1, 1}, 2, false},
		{2, []impl.Quote{{Event: 1, Price: 2}, {Event: 2, Price: 4}}, nil, 0, true},
		{3, []impl.Quote{{Event: 3, Price: 1}, {Event: 1, Price: 2}}, []int{-1, 1}, 1, false},
		{3, []impl.Quote{{Event: 3, Price: 3}, {Event: 6, Price: 4}}, nil, 0, true},
		{3, []impl.Quote{{Event: 3, Price: 5}, {Event: 5, Price: 5}, {Event: 6, Price: 5}}, []int{1, 1, 1}, 3, false},
		{3, []impl.Quote{{Event: 3, Price: 4}, {Event: 5, Price: 4}, {Event: 6, Price: 4}}, nil, 0, true},
		{3, []impl.Quote{{Event: 3, Price: 4}, {Event: 5, Price: 4}, {Event: 6, Price: 3}}, []int{-1, -1, -1}, 1, false},
		{4, []impl.Quote{{Event: 1, Price: 1}, {Event: 2, Price: 2}, {Event: 4, Price: 3}}, nil, 0, true},
		{4, []impl.Quote{{Event: 1, Price: 1}, {Event: 2, Price: 2}, {Event: 4, Price: 4}}, []int{1, 1, 1}, 1, false},
		{4, []impl.Quote{{Event: 1, Price: 2}, {Event: 6, Price: 2}, {Event: 7, Price: 5}}, []int{-1, -1, 1}, 1, false},
	} {
		stakes, ok := impl.LosingStakes(c.worlds, c.book)
		if ok == c.safe || !slices.Equal(stakes, c.want) {
			t.Errorf("LosingStakes(%d, %v) = %v, %t", c.worlds, c.book, stakes, ok)
		}
		if loss, ok := impl.SureLossOf(c.worlds, c.book); ok == c.safe || loss != c.loss {
			t.Errorf("SureLossOf(%d, %v) = %d, %t", c.worlds, c.book, loss, ok)
		}
		if safe := impl.SafeOk(c.worlds, c.book); safe != c.safe {
			t.Errorf("SafeOk(%d, %v) = %t", c.worlds, c.book, safe)
		}
	}
}

func TestLosingStakesAreTheFirstOnes(t *testing.T) {
	bySum := map[int]int{}
	eachLossBook(func(worlds int, book []impl.Quote) {
		stakes, ok := impl.LosingStakes(worlds, book)
		want, wantOk := firstLosing(worlds, book)
		if ok != wantOk || !slices.Equal(stakes, want) {
			t.Fatalf("LosingStakes(%d, %v) = %v, %t, not %v, %t", worlds, book, stakes, ok, want, wantOk)
		}
		bySum[withoutSigns(stakes)]++
	})
	for sum := range 4 {
		if bySum[sum] < 10 {
			t.Errorf("%d books have losing stakes of the sum %d", bySum[sum], sum)
		}
	}
}

func TestPromise27EitherThereIsAMeasureOrThereAreStakes(t *testing.T) {
	measures, losing := 0, 0
	eachLossBook(func(worlds int, book []impl.Quote) {
		stakes, ok := impl.LosingStakes(worlds, book)
		if m, fits := impl.FirstMeasure(worlds, book); ok == fits {
			t.Fatalf("%d worlds: %v has the losing stakes %v, %t, and the measure %v, %t", worlds, book, stakes, ok, m, fits)
		}
		if !ok {
			measures++
			if len(stakes) != 0 {
				t.Fatalf("LosingStakes(%d, %v) = %v beside false", worlds, book, stakes)
			}
			return
		}
		losing++
		if len(stakes) != len(book) || !impl.LosesBy(worlds, book, stakes) {
			t.Fatalf("LosingStakes(%d, %v) = %v, which do not surely lose", worlds, book, stakes)
		}
		for at, stake := range stakes {
			if stake < -impl.MaxSure || stake > impl.MaxSure {
				t.Fatalf("LosingStakes(%d, %v) = %v, which are not tried", worlds, book, stakes)
			}
			if stake != 0 && impl.LosesBy(worlds, book, nearer(stakes, at)) {
				t.Fatalf("LosingStakes(%d, %v) = %v, but %v surely lose as well", worlds, book, stakes, nearer(stakes, at))
			}
		}
	})
	if measures < 1000 || losing < 1000 {
		t.Errorf("%d books have a measure, %d have losing stakes", measures, losing)
	}
	eachInvalidBook(func(worlds int, book []impl.Quote) {
		if stakes, ok := impl.LosingStakes(worlds, book); ok || len(stakes) != 0 {
			t.Fatalf("LosingStakes(%d, %v) = %v, %t", worlds, book, stakes, ok)
		}
	})
}

func TestPromise28ABookIsSafeJustIfItIsFair(t *testing.T) {
	for _, worlds := range worldNumbers {
		valid := countOfEvents[worlds] > 0
		if impl.SafeOk(worlds, nil) != valid || impl.SafeOk(worlds, []impl.Quote{}) != valid || impl.SafeOk(worlds, make([]impl.Quote, 0, 9)) != valid {
			t.Errorf("%d worlds: a book of no quotes is safe: not %t", worlds, valid)
		}
	}
	eachLossBook(func(worlds int, book []impl.Quote) {
		safe := impl.SafeOk(worlds, book)
		if _, loses := firstLosing(worlds, book); safe == loses || safe != impl.FairOk(worlds, book) {
			t.Fatalf("SafeOk(%d, %v) = %t", worlds, book, safe)
		}
		if safe && len(book) > 0 && !impl.SafeOk(worlds, book[:len(book)-1]) {
			t.Fatalf("%d worlds: %v is safe, but not without its last quote", worlds, book)
		}
	})
	eachInvalidBook(func(worlds int, book []impl.Quote) {
		if impl.SafeOk(worlds, book) {
			t.Fatalf("SafeOk(%d, %v) = true", worlds, book)
		}
	})
}

func TestPromise29ASureLossIsMoreThanNothing(t *testing.T) {
	eachLossBook(func(worlds int, book []impl.Quote) {
		loss, ok := impl.SureLossOf(worlds, book)
		stakes, told := impl.LosingStakes(worlds, book)
		if ok != told || ok && loss < 1 || !ok && loss != 0 {
			t.Fatalf("SureLossOf(%d, %v) = %d, %t, but the losing stakes are %v, %t", worlds, book, loss, ok, stakes, told)
		}
		if first, loses := firstLosing(worlds, book); ok != loses || loses && loss != -slices.Max(balance(worlds, book, first)) {
			t.Fatalf("SureLossOf(%d, %v) = %d, %t", worlds, book, loss, ok)
		}
	})
	eachInvalidBook(func(worlds int, book []impl.Quote) {
		if loss, ok := impl.SureLossOf(worlds, book); ok || loss != 0 {
			t.Fatalf("SureLossOf(%d, %v) = %d, %t", worlds, book, loss, ok)
		}
	})
}

// checkLoss tests which stakes surely lose in a book, and how much.
func checkLoss(t *testing.T, worlds int, book []impl.Quote, want []int, wantLoss int) {
	t.Helper()
	stakes, ok := impl.LosingStakes(worlds, book)
	if ok != (want != nil) || !slices.Equal(stakes, want) {
		t.Errorf("LosingStakes(%d, %v) = %v, %t", worlds, book, stakes, ok)
	}
	if loss, lossOk := impl.SureLossOf(worlds, book); lossOk != ok || loss != wantLoss {
		t.Errorf("SureLossOf(%d, %v) = %d, %t", worlds, book, loss, lossOk)
	}
}

func TestPromise30TwoPricesForOneEventSurelyLose(t *testing.T) {
	for worlds := 2; worlds <= impl.MaxWorlds; worlds++ {
		for event := 1; event < countOfEvents[worlds]-1; event++ {
			for _, low := range prices {
				for high := low + 1; high <= 6; high++ {
					lower, higher := impl.Quote{Event: event, Price: low}, impl.Quote{Event: event, Price: high}
					checkLoss(t, worlds, []impl.Quote{lower, higher}, []int{-1, 1}, high-low)
					checkLoss(t, worlds, []impl.Quote{higher, lower}, []int{1, -1}, high-low)
				}
				checkLoss(t, worlds, []impl.Quote{{Event: event, Price: low}, {Event: event, Price: low}}, nil, 0)
			}
		}
	}
	for _, book := range [][]impl.Quote{
		{{Event: 1, Price: 2}, {Event: 1, Price: 7}}, {{Event: 1, Price: -1}, {Event: 1, Price: 2}}, {{Event: 16, Price: 2}, {Event: 16, Price: 3}}, {{Event: -1, Price: 2}, {Event: -1, Price: 3}},
		{{Event: 1, Price: math.MinInt}, {Event: 1, Price: math.MaxInt}}, {{Event: math.MaxInt, Price: 2}, {Event: math.MaxInt, Price: 3}}, {{Event: math.MinInt, Price: 2}, {Event: math.MinInt, Price: 3}},
	} {
		checkLoss(t, 4, book, nil, 0)
	}
}

// TestPricesOfNeverAndAlwaysLoseAlone: for events that never or always come true one bet alone loses, unless its price is the right one.
func TestPricesOfNeverAndAlwaysLoseAlone(t *testing.T) {
	for worlds := 1; worlds <= impl.MaxWorlds; worlds++ {
		always := countOfEvents[worlds] - 1
		for _, first := range prices {
			for _, second := range prices {
				book := []impl.Quote{{Price: first}, {Price: second}}
				switch {
				case second > 0:
					checkLoss(t, worlds, book, []int{0, 1}, second)
				case first > 0:
					checkLoss(t, worlds, book, []int{1, 0}, first)
				default:
					checkLoss(t, worlds, book, nil, 0)
				}
				book = []impl.Quote{{Event: always, Price: first}, {Event: always, Price: second}}
				switch {
				case first < 6:
					checkLoss(t, worlds, book, []int{-1, 0}, 6-first)
				case second < 6:
					checkLoss(t, worlds, book, []int{0, -1}, 6-second)
				default:
					checkLoss(t, worlds, book, nil, 0)
				}
			}
		}
	}
}

// TestLosingStakesAreNewMemory: the stakes of one call are written over, with the room behind them, and neither the book nor those of other calls change.
func TestLosingStakesAreNewMemory(t *testing.T) {
	for _, room := range [][]impl.Quote{
		{{Event: 1, Price: 5}, {Event: 1, Price: 2}, {Event: 0, Price: 0}, {Event: 0, Price: 6}},
		{{Event: 0, Price: 1}, {Event: 1, Price: 2}, {Event: 3, Price: 6}, {Event: 0, Price: 6}},
		{{Event: 3, Price: 5}, {Event: 1, Price: 2}, {Event: 2, Price: 2}, {Event: 0, Price: 6}},
		{{Event: 1, Price: 1}, {Event: 2, Price: 5}, {Event: 0, Price: 2}, {Event: 0, Price: 6}},
	} {
		before := slices.Clone(room)
		for quotes := range 4 {
			book := room[:quotes]
			want, ok := firstLosing(2, book)
			if !ok {
				continue
			}
			checkNewMemory(t, []int{7, 7}, 0, func([]int) []int {
				impl.SafeOk(2, book)
				impl.SureLossOf(2, book)
				stakes, _ := impl.LosingStakes(2, book)
				return stakes
			})
			if stakes, ok := impl.LosingStakes(2, book); !ok || !slices.Equal(stakes, want) || !slices.Equal(room, before) {
				t.Errorf("LosingStakes(2, %v) = %v, %t, not %v", book, stakes, ok, want)
			}
		}
	}
}

// TestStakesAreOnlyRead: no function of the chapter writes to a book or to stakes, also not for calls that have no result.
func TestStakesAreOnlyRead(t *testing.T) {
	for _, quotes := range [][]impl.Quote{
		{{Event: 1, Price: 5}, {Event: 1, Price: 2}, {Event: 0, Price: 0}, {Event: 0, Price: 6}, {Event: 7, Price: 7}},
		{{Event: 3, Price: 6}, {Event: 1, Price: 2}, {Event: 2, Price: 4}, {Event: 2, Price: 1}, {Event: 7, Price: 7}},
		{{Event: 16, Price: 2}, {Event: 1, Price: -1}, {Event: -1, Price: 9}, {Event: 2, Price: 1}, {Event: 7, Price: 7}},
	} {
		for _, numbers := range [][]int{{1, -1, 0, 4, 5}, {-1, 1, 2, -2, 0}, {0, 0, 0, 0, 0}, {10, -10, math.MinInt, math.MaxInt, 5}} {
			book, row := slices.Clone(quotes), slices.Clone(numbers)
			for worlds := range 6 {
				for length := range 6 {
					for count := range 6 {
						impl.LosesBy(worlds, book[:length], row[:count])
					}
					impl.LosingStakes(worlds, book[:length])
					impl.SafeOk(worlds, book[:length])
					impl.SureLossOf(worlds, book[:length])
				}
			}
			if !slices.Equal(book, quotes) || !slices.Equal(row, numbers) {
				t.Errorf("%v or %v was written to: %v %v", quotes, numbers, book, row)
			}
		}
	}
}
