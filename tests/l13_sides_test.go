package tests

import (
	"math"
	"slices"
	"sync"
	"testing"

	"loop.example/fairbooks/impl"
)

// badPairs has low and high prices that are none together: past the bounds, the low one above the high one, or both; and some that are, for bids on what is no event.
var badPairs = [][2]int{
	{0, 0}, {0, 6}, {2, 4}, {6, 6},
	{1, 0}, {6, 5}, {6, 0}, {4, 3}, {4, 2},
	{-1, 0}, {-1, -1}, {-1, 6}, {-2, -1}, {-6, 0}, {-36, 36}, {0, -1}, {6, -1}, {-1, -2},
	{0, 7}, {6, 7}, {7, 7}, {7, 6}, {7, 8}, {8, 7}, {-1, 7}, {7, -1}, {3, 36},
	{math.MinInt, math.MaxInt}, {math.MaxInt, math.MinInt}, {math.MinInt, 0}, {math.MinInt, 6}, {0, math.MaxInt}, {6, math.MaxInt},
	{math.MinInt, math.MinInt}, {math.MaxInt, math.MaxInt}, {0, math.MinInt}, {math.MaxInt, 6}, {math.MinInt + 1, 3}, {3, math.MaxInt - 1},
	{1 << 32, 1 << 32}, {0, 1 << 32}, {0, 1<<32 + 1}, {-(1 << 32), 0}, {1<<32 + 1, 6},
}

// isBid tells by a table whether there is a bid of so many worlds: the high price is one of those from the low one on.
func isBid(worlds int, bid impl.Bid) bool {
	low := slices.Index(prices, bid.Low)
	return isEvent(worlds, bid.Event) && low >= 0 && slices.Contains(prices[low:], bid.High)
}

// isBids tells what BidsOk has to report.
func isBids(worlds int, bids []impl.Bid) bool {
	bad := slices.ContainsFunc(bids, func(bid impl.Bid) bool { return !isBid(worlds, bid) })
	return countOfEvents[worlds] > 0 && !bad && slices.Contains([]int{0, 1, 2, 3}, len(bids))
}

// pricePairs returns all pairs of a low and a high price.
func pricePairs() [][2]int {
	var list [][2]int
	for _, low := range prices {
		for _, high := range prices[low:] {
			list = append(list, [2]int{low, high})
		}
	}
	return list
}

// bidsOn returns a bid on an event for each of these pairs of prices.
func bidsOn(event int, pairs [][2]int) []impl.Bid {
	list := make([]impl.Bid, len(pairs))
	for i, pair := range pairs {
		list[i] = impl.Bid{Event: event, Low: pair[0], High: pair[1]}
	}
	return list
}

// allBids returns all bids of so many worlds.
func allBids(worlds int) []impl.Bid {
	var list []impl.Bid
	for event := range countOfEvents[worlds] {
		list = append(list, bidsOn(event, pricePairs())...)
	}
	return list
}

// badBids returns bids that are none of so many worlds, by their events, by their prices, or by both.
func badBids(worlds int) []impl.Bid {
	var list []impl.Bid
	for _, event := range eventNumbers() {
		list = append(list, bidsOn(event, badPairs)...)
	}
	return slices.DeleteFunc(list, func(bid impl.Bid) bool { return isBid(worlds, bid) })
}

// eachNoBids calls a function with rows that are no bids of so many worlds: by the worlds, by a bid in any place, or by too many bids.
func eachNoBids(do func(worlds int, bids []impl.Bid)) {
	good := impl.Bid{Event: 1, Low: 1, High: 6}
	for _, worlds := range worldNumbers {
		for count := range 6 {
			for _, bid := range []impl.Bid{{}, {High: 6}, good} {
				if bids := slices.Repeat([]impl.Bid{bid}, count); !isBids(worlds, bids) {
					do(worlds, bids)
				}
			}
		}
		for _, bad := range badBids(worlds) {
			for count := 1; count <= 3; count++ {
				for at := range count {
					bids := slices.Repeat([]impl.Bid{good}, count)
					bids[at] = bad
					do(worlds, bids)
				}
			}
		}
	}
	for worlds := 1; worlds <= 4; worlds++ {
		for _, count := range []int{4, 5, 64, 65, 1000} {
			do(worlds, make([]impl.Bid, count))
			do(worlds, slices.Repeat([]impl.Bid{{High: 6}}, count))
		}
	}
}

// fitsBetween tells what FitsSides has to report of a measure and bids: a sixth of all grains is six.
func fitsBetween(m []int, bids []impl.Bid) bool {
	return !slices.ContainsFunc(bids, func(bid impl.Bid) bool {
		grains := onEvent(m, bid.Event)
		return grains < 6*bid.Low || grains > 6*bid.High
	})
}

// takenGain tells by the bets themselves, one by one, what TakerGain has to return.
func takenGain(worlds int, bids []impl.Bid, stakes []int) []int {
	gain := make([]int, worlds)
	for i, bid := range bids {
		for world, on := range setOf(worlds, bid.Event) {
			brings := 0
			if on {
				brings = 6
			}
			for range max(stakes[i], 0) {
				gain[world] += brings - bid.High // bought
			}
			for range max(-stakes[i], 0) {
				gain[world] += bid.Low - brings // sold
			}
		}
	}
	return gain
}

// winsEverywhere tells whether stakes win in each world.
func winsEverywhere(worlds int, bids []impl.Bid, stakes []int) bool {
	return slices.Min(takenGain(worlds, bids, stakes)) > 0
}

// firstWinning tells what WinningStakes has to return for bids.
func firstWinning(worlds int, bids []impl.Bid) ([]int, bool) {
	return firstTried(len(bids), func(stakes []int) bool { return winsEverywhere(worlds, bids, stakes) })
}

// quotesBetween returns the quotes for the events of bids at prices that a function tells.
func quotesBetween(bids []impl.Bid, price func(bid impl.Bid) int) []impl.Quote {
	book := make([]impl.Quote, len(bids))
	for i, bid := range bids {
		book[i] = impl.Quote{Event: bid.Event, Price: price(bid)}
	}
	return book
}

// lowOf returns the low price of a bid.
func lowOf(bid impl.Bid) int {
	return bid.Low
}

// highOf returns the high price of a bid.
func highOf(bid impl.Bid) int {
	return bid.High
}

// atOnePrice returns bids with both prices the same, each at one that a function tells.
func atOnePrice(bids []impl.Bid, price func(bid impl.Bid) int) []impl.Bid {
	same := slices.Clone(bids)
	for i, bid := range bids {
		same[i].Low, same[i].High = price(bid), price(bid)
	}
	return same
}

// drawBids draws so many bids.
func drawBids(draw func(below int) int, worlds int, count int) []impl.Bid {
	bids := make([]impl.Bid, count)
	for i := range bids {
		a, b := draw(7), draw(7)
		bids[i] = impl.Bid{Event: draw(countOfEvents[worlds]), Low: min(a, b), High: max(a, b)}
	}
	return bids
}

// drawAround draws so many bids that a measure fits: half of them with prices that are as near to its grains as can be.
func drawAround(draw func(below int) int, m []int, count int) []impl.Bid {
	bids := make([]impl.Bid, count)
	for i := range bids {
		event := draw(countOfEvents[len(m)])
		grains := onEvent(m, event)
		low, high := grains/6, (grains+5)/6
		if draw(2) == 0 {
			low, high = draw(low+1), high+draw(7-high)
		}
		bids[i] = impl.Bid{Event: event, Low: low, High: high}
	}
	return bids
}

// movedBid returns bids with both prices of the one at a place moved by one, up if they can be.
func movedBid(bids []impl.Bid, at int) []impl.Bid {
	moved := slices.Clone(bids)
	by := 1
	if moved[at].High == 6 {
		by = -1
	}
	moved[at].Low = max(0, moved[at].Low+by)
	moved[at].High += by
	return moved
}

// twiceBid returns rows of two bids on one event: never, one world, some worlds, and always; with prices apart, with such that touch, and with some in common.
func twiceBid(worlds int) [][]impl.Bid {
	var list [][]impl.Bid
	always := countOfEvents[worlds] - 1
	for _, event := range slices.Compact([]int{0, 1, always / 3, always}) {
		list = append(list, rowsOf(2, bidsOn(event, [][2]int{{0, 0}, {0, 1}, {1, 3}, {2, 2}, {3, 3}, {3, 5}, {4, 6}, {6, 6}}))...)
	}
	return list
}

// sideLists returns bids of so many worlds: all of at most one, all of two for at most two worlds, some on one event twice, drawn ones, drawn ones that fit a measure, and such ones of which one is moved.
func sideLists(worlds int) [][]impl.Bid {
	list := append([][]impl.Bid{nil}, rowsOf(1, allBids(worlds))...)
	if worlds <= 2 {
		list = append(list, rowsOf(2, allBids(worlds))...)
	} else {
		list = append(list, twiceBid(worlds)...)
	}
	draw := drawer(uint64(130 + worlds))
	for count := 1; count <= 3; count++ {
		for range 60 {
			around := drawAround(draw, drawMeasure(draw, worlds), count)
			sixths := drawAround(draw, drawSixths(draw, worlds), count)
			list = append(list, drawBids(draw, worlds, count), around, sixths, movedBid(around, draw(count)), movedBid(sixths, draw(count)))
		}
	}
	return list
}

// sideCase has bids, and which numbers of grains the measures that fit them have.
type sideCase struct {
	worlds int
	bids   []impl.Bid
	seenGrains
}

// sidesOf returns the case of bids.
func sidesOf(worlds int, bids []impl.Bid) sideCase {
	return sideCase{worlds, bids, grainsSeen(worlds, func(m []int) bool { return fitsBetween(m, bids) })}
}

// sideCases returns the bids of 1..4 worlds that are tested.
var sideCases = sync.OnceValue(func() []sideCase {
	var list []sideCase
	for worlds := 1; worlds <= 4; worlds++ {
		for _, bids := range sideLists(worlds) {
			list = append(list, sidesOf(worlds, bids))
		}
	}
	return list
})

// tight tells what TightOk has to report.
func (c sideCase) tight() bool {
	loose := slices.ContainsFunc(c.bids, func(bid impl.Bid) bool {
		return c.least(bid.Event) != 6*bid.Low || c.most(bid.Event) != 6*bid.High
	})
	return c.fair() && !loose
}

// events returns the events that are tested for the bids.
func (c sideCase) events(draw func(below int) int) []int {
	var given []int
	for _, bid := range c.bids {
		given = append(given, bid.Event)
	}
	return someEvents(draw, c.worlds, given)
}

// checkFitsSides tests what FitsSides reports.
func checkFitsSides(t *testing.T, m []int, bids []impl.Bid, want bool) {
	t.Helper()
	if got := impl.FitsSides(m, bids); got != want {
		t.Fatalf("FitsSides(%v, %v) = %t", m, bids, got)
	}
}

// checkTakenBids tests what TakerGain returns; nothing is wanted for what is not valid.
func checkTakenBids(t *testing.T, worlds int, bids []impl.Bid, stakes []int, want []int) {
	t.Helper()
	if gain, ok := impl.TakerGain(worlds, bids, stakes); ok != (want != nil) || !slices.Equal(gain, want) {
		t.Fatalf("TakerGain(%d, %v, %v) = %v, %t, not %v", worlds, bids, stakes, gain, ok, want)
	}
}

// checkWinning tests what WinningStakes returns; nothing is wanted if nobody surely wins.
func checkWinning(t *testing.T, worlds int, bids []impl.Bid, want []int) {
	t.Helper()
	if stakes, ok := impl.WinningStakes(worlds, bids); ok != (want != nil) || !slices.Equal(stakes, want) {
		t.Fatalf("WinningStakes(%d, %v) = %v, %t, not %v", worlds, bids, stakes, ok, want)
	}
}

// checkSides tests what SidesOn returns; -1 is wanted twice if there is no measure.
func checkSides(t *testing.T, worlds int, bids []impl.Bid, event int, wantLeast int, wantMost int) {
	t.Helper()
	if least, most, ok := impl.SidesOn(worlds, bids, event); ok != (wantLeast >= 0) || least != wantLeast || most != wantMost {
		t.Fatalf("SidesOn(%d, %v, %d) = %d, %d, %t, not from %d to %d", worlds, bids, event, least, most, ok, wantLeast, wantMost)
	}
}

func TestSomeBids(t *testing.T) {
	good := impl.Bid{Event: 3, Low: 2, High: 4}
	for _, c := range []struct {
		worlds int
		bids   []impl.Bid
		want   bool
	}{
		{1, nil, true}, // no bids
		{4, nil, true},
		{4, []impl.Bid{}, true},
		{0, nil, false}, // no worlds
		{5, nil, false}, // one more than MaxWorlds
		{-1, nil, false},
		{math.MinInt, nil, false},
		{math.MaxInt, nil, false},
		{0, []impl.Bid{{}}, false},
		{5, []impl.Bid{good}, false},
		{2, []impl.Bid{good}, true},
		{1, []impl.Bid{good}, false}, // one world has no event 3
		{1, []impl.Bid{{Event: 1, Low: 6, High: 6}}, true},
		{4, []impl.Bid{good, good, good}, true},        // MaxQuotes bids
		{4, []impl.Bid{good, good, good, good}, false}, // one more
		{4, []impl.Bid{{}}, true},                      // Low and High the same, both 0
		{4, []impl.Bid{{Event: 15, Low: 6, High: 6}}, true},
		{4, []impl.Bid{{Event: 15}}, true},
		{4, []impl.Bid{{Event: 0, Low: 6, High: 6}}, true},
		{4, []impl.Bid{{Event: 9, Low: 0, High: 6}}, true},
		{4, []impl.Bid{{Event: 9, Low: 3, High: 3}}, true},
		{4, []impl.Bid{{Event: 9, Low: 3, High: 2}}, false}, // Low just above High
		{4, []impl.Bid{{Event: 9, Low: 1, High: 0}}, false},
		{4, []impl.Bid{{Event: 9, Low: 6, High: 5}}, false},
		{4, []impl.Bid{{Event: 9, Low: 6, High: 0}}, false},
		{4, []impl.Bid{{Event: 9, Low: -1, High: 0}}, false},
		{4, []impl.Bid{{Event: 9, Low: -1, High: -1}}, false},
		{4, []impl.Bid{{Event: 9, Low: 6, High: 7}}, false},
		{4, []impl.Bid{{Event: 9, Low: 7, High: 7}}, false},
		{4, []impl.Bid{{Event: -1, Low: 2, High: 4}}, false},
		{4, []impl.Bid{{Event: 16, Low: 2, High: 4}}, false},
		{3, []impl.Bid{{Event: 7, Low: 2, High: 4}, {Event: 8, Low: 2, High: 4}}, false},
		{4, []impl.Bid{good, {Event: 3, Low: 5, High: 6}}, true}, // one event twice, with prices apart
		{4, []impl.Bid{good, {Event: 3, Low: 4, High: 6}}, true}, // and with prices that touch
		{4, []impl.Bid{{Event: 9, Low: 3, High: 2}, good, good}, false},
		{4, []impl.Bid{good, {Event: 9, Low: 3, High: 2}, good}, false},
		{4, []impl.Bid{good, good, {Event: 9, Low: 3, High: 2}}, false},
		{4, []impl.Bid{{Event: math.MinInt, Low: 2, High: 4}}, false},
		{4, []impl.Bid{{Event: math.MaxInt, Low: 2, High: 4}}, false},
		{4, []impl.Bid{{Event: 9, Low: math.MinInt, High: 4}}, false},
		{4, []impl.Bid{{Event: 9, Low: 2, High: math.MaxInt}}, false},
		{4, []impl.Bid{{Event: 9, Low: math.MinInt, High: math.MaxInt}}, false},
		{4, []impl.Bid{{Event: 9, Low: math.MaxInt, High: math.MinInt}}, false},
	} {
		if got := impl.BidsOk(c.worlds, c.bids); got != c.want {
			t.Errorf("BidsOk(%d, %v) = %t", c.worlds, c.bids, got)
		}
	}
}

func TestPromise81PricesFromNothingToTheWholeAreBids(t *testing.T) {
	for _, worlds := range worldNumbers {
		valid := countOfEvents[worlds] > 0
		if impl.BidsOk(worlds, nil) != valid || impl.BidsOk(worlds, []impl.Bid{}) != valid || impl.BidsOk(worlds, make([]impl.Bid, 0, 9)) != valid {
			t.Errorf("BidsOk(%d, nothing) is not %t", worlds, valid)
		}
	}
	for _, c := range sideCases() {
		wide := slices.Clone(c.bids)
		for i := range wide {
			wide[i].Low, wide[i].High = 0, 6
		}
		for _, worlds := range worldNumbers {
			if got := impl.BidsOk(worlds, c.bids); got != isBids(worlds, c.bids) {
				t.Fatalf("BidsOk(%d, %v) = %t", worlds, c.bids, got)
			} else if got && !impl.BidsOk(worlds, wide) {
				t.Fatalf("BidsOk(%d, %v) = false", worlds, wide)
			}
		}
		if !impl.BidsOk(c.worlds, c.bids) || !impl.SidesFair(c.worlds, wide) {
			t.Fatalf("%d worlds: %v are no bids, or %v are not fair", c.worlds, c.bids, wide)
		}
	}
}

func TestOthersAreNoBids(t *testing.T) {
	for _, worlds := range worldNumbers {
		for _, event := range eventNumbers() {
			for _, low := range append(slices.Clone(prices), badPrices...) {
				for _, high := range append(slices.Clone(prices), badPrices...) {
					bid := impl.Bid{Event: event, Low: low, High: high}
					if got := impl.BidsOk(worlds, []impl.Bid{bid}); got != isBid(worlds, bid) {
						t.Fatalf("BidsOk(%d, {%v}) = %t", worlds, bid, got)
					}
				}
			}
		}
	}
	none := 0
	eachNoBids(func(worlds int, bids []impl.Bid) {
		if isBids(worlds, bids) || impl.BidsOk(worlds, bids) {
			t.Fatalf("BidsOk(%d, %v) = true", worlds, bids)
		}
		none++
	})
	if none < 10000 {
		t.Errorf("%d rows are no bids", none)
	}
}

func TestMeasuresThatFitSomeBids(t *testing.T) {
	bids := []impl.Bid{{Event: 3, Low: 2, High: 4}, {Event: 1, Low: 3, High: 5}}
	for _, c := range []struct {
		m    []int
		bids []impl.Bid
		want bool
	}{
		{[]int{18, 0, 18}, bids, true},
		{[]int{6, 12, 18}, bids, false},
		{[]int{18, 6, 12}, bids, true},  // reaches a high price and a low one
		{[]int{18, 7, 11}, bids, false}, // one grain more than the high price
		{[]int{17, 7, 12}, bids, false}, // one grain fewer than the low price
		{[]int{24, 0, 12}, bids, true},
		{[]int{25, 0, 11}, bids, false},
		{[]int{12, 24}, []impl.Bid{{Event: 1, Low: 2, High: 2}}, true},
		{[]int{11, 25}, []impl.Bid{{Event: 1, Low: 2, High: 2}}, false},
		{[]int{13, 23}, []impl.Bid{{Event: 1, Low: 2, High: 2}}, false},
		{[]int{11, 25}, []impl.Bid{{Event: 1, Low: 1, High: 2}}, true},
		{[]int{13, 23}, []impl.Bid{{Event: 1, Low: 1, High: 2}}, false},
		{[]int{13, 23}, []impl.Bid{{Event: 1, Low: 2, High: 3}}, true},
		{[]int{11, 25}, []impl.Bid{{Event: 1, Low: 2, High: 3}}, false},
		{[]int{0, 36}, []impl.Bid{{Event: 1}}, true},
		{[]int{1, 35}, []impl.Bid{{Event: 1}}, false},
		{[]int{36, 0}, []impl.Bid{{Event: 1, Low: 6, High: 6}}, true},
		{[]int{35, 1}, []impl.Bid{{Event: 1, Low: 6, High: 6}}, false},
		{[]int{36}, nil, true},
		{[]int{9, 9, 9, 9}, []impl.Bid{}, true},
		{[]int{36}, []impl.Bid{{}}, true}, // never, at nothing
		{[]int{36}, []impl.Bid{{Low: 1, High: 6}}, false},
		{[]int{36}, []impl.Bid{{Low: 0, High: 6}}, true},
		{[]int{36}, []impl.Bid{{Event: 1, Low: 0, High: 5}}, false}, // always, but not at the whole
		{[]int{36}, []impl.Bid{{Event: 1, Low: 0, High: 6}}, true},
		{[]int{9, 9, 9, 9}, []impl.Bid{{Event: 7, Low: 4, High: 5}, {Event: 15, Low: 6, High: 6}, {Event: 0}}, true},
		{[]int{9, 9, 9, 9}, []impl.Bid{{Event: 1, Low: 1, High: 1}}, false},
		{[]int{9, 9, 9, 9}, []impl.Bid{{Event: 1, Low: 1, High: 2}}, true},
		{[]int{9, 9, 9, 9}, []impl.Bid{{Event: 1, Low: 2, High: 2}}, false},
		// One event twice, with prices that touch and with prices apart.
		{[]int{12, 24}, []impl.Bid{{Event: 1, Low: 1, High: 2}, {Event: 1, Low: 2, High: 5}}, true},
		{[]int{13, 23}, []impl.Bid{{Event: 1, Low: 1, High: 2}, {Event: 1, Low: 2, High: 5}}, false},
		{[]int{15, 21}, []impl.Bid{{Event: 1, Low: 1, High: 2}, {Event: 1, Low: 3, High: 5}}, false},
		{[]int{12, 24}, []impl.Bid{{Event: 4, Low: 0, High: 6}}, false}, // bids of more worlds
		{[]int{12, 24}, []impl.Bid{{Event: 1, Low: 0, High: 7}}, false},
		{[]int{12, 24}, []impl.Bid{{Event: 1, Low: -1, High: 6}}, false},
		{[]int{12, 24}, []impl.Bid{{Event: 1, Low: 3, High: 2}}, false},
		{[]int{12, 24}, make([]impl.Bid, 3), true},
		{[]int{12, 24}, make([]impl.Bid, 4), false},
		{[]int{12, 23}, nil, false},
		{[]int{12, 25}, []impl.Bid{{Event: 1, Low: 0, High: 6}}, false},
		{[]int{-1, 37}, []impl.Bid{{Event: 2, Low: 0, High: 6}}, false},
		{nil, nil, false},
		{[]int{36, 0, 0, 0, 0}, nil, false},
	} {
		if got := impl.FitsSides(c.m, c.bids); got != c.want {
			t.Errorf("FitsSides(%v, %v) = %t", c.m, c.bids, got)
		}
	}
}

// TestPricesAreReachedToTheGrain: of each event that comes true in some worlds, each number of grains is held against each price.
func TestPricesAreReachedToTheGrain(t *testing.T) {
	for worlds := 2; worlds <= impl.MaxWorlds; worlds++ {
		always := countOfEvents[worlds] - 1
		for event := 1; event < always; event++ {
			for grains := range 37 {
				m := make([]int, worlds)
				m[slices.Index(setOf(worlds, event), true)] += grains
				m[slices.Index(setOf(worlds, event), false)] += 36 - grains
				for _, bid := range bidsOn(event, pricePairs()) {
					checkFitsSides(t, m, []impl.Bid{bid}, 6*bid.Low <= grains && grains <= 6*bid.High)
				}
			}
		}
	}
}

// someMeasures returns all measures of at most two worlds, and some of more worlds: all grains on one world, and drawn ones, half of them in sixths.
func someMeasures(draw func(below int) int, worlds int) [][]int {
	if worlds <= 2 {
		return allMeasures[worlds]
	}
	var list [][]int
	for world := range worlds {
		list = append(list, allOnOne(worlds, world))
	}
	for range 20 {
		list = append(list, drawMeasure(draw, worlds), drawSixths(draw, worlds))
	}
	return list
}

func TestPromise82WiderPricesFitNoLess(t *testing.T) {
	draw, fit, not, same := drawer(82), 0, 0, 0
	check := func(m []int, bids []impl.Bid) {
		want := fitsBetween(m, bids)
		checkFitsSides(t, m, bids, want)
		if want {
			fit++
		} else {
			not++
		}
		for i := range bids {
			wider := slices.Clone(bids)
			wider[i].Low = 0
			checkFitsSides(t, m, wider, fitsBetween(m, wider))
			if want && !impl.FitsSides(m, wider) {
				t.Fatalf("%v fits %v, but not %v", m, bids, wider)
			}
			wider = slices.Clone(bids)
			wider[i].High = 6
			if want && !impl.FitsSides(m, wider) {
				t.Fatalf("%v fits %v, but not %v", m, bids, wider)
			}
		}
		for _, price := range []func(bid impl.Bid) int{lowOf, highOf} {
			fits := impl.FitsOk(m, quotesBetween(bids, price))
			checkFitsSides(t, m, atOnePrice(bids, price), fits)
			if fits {
				same++
			}
		}
	}
	for _, c := range sideCases() {
		for _, m := range someMeasures(draw, c.worlds) {
			if c.worlds > 1 && len(c.bids) == 2 && draw(4) > 0 {
				continue // of two bids there are many
			}
			check(m, c.bids)
		}
	}
	for worlds := 1; worlds <= 4; worlds++ {
		for range 2000 {
			m := drawMeasure(draw, worlds)
			around := drawAround(draw, m, 1+draw(3))
			check(m, around)
			check(m, movedBid(around, draw(len(around))))
		}
	}
	if fit < 10000 || not < 10000 || same < 1000 {
		t.Errorf("%d measures fit, %d do not, and %d fit quotes", fit, not, same)
	}
}

// TestOthersDoNotFitSides: rows that are no measures fit no bids, and measures fit none that are of more worlds or no bids.
func TestOthersDoNotFitSides(t *testing.T) {
	for _, bad := range badMeasures() {
		for _, bids := range [][]impl.Bid{nil, {}, {{}}, {{High: 6}}, {{Event: 1, High: 6}}, {{Event: 1}}, {{High: 6}, {Event: 1, High: 6}, {High: 6}}, make([]impl.Bid, 4)} {
			checkFitsSides(t, bad, bids, false)
		}
	}
	for worlds := 1; worlds <= impl.MaxWorlds; worlds++ {
		m := allOnOne(worlds, 0)
		for event := -1; event <= 17; event++ {
			bid := impl.Bid{Event: event, Low: 0, High: 6}
			checkFitsSides(t, m, []impl.Bid{bid}, isEvent(worlds, event))
			checkFitsSides(t, m, []impl.Bid{{High: 6}, {High: 6}, bid}, isEvent(worlds, event))
		}
	}
	eachNoBids(func(worlds int, bids []impl.Bid) {
		if countOfEvents[worlds] > 0 {
			checkFitsSides(t, allOnOne(worlds, 0), bids, false)
			checkFitsSides(t, allOnOne(worlds, worlds-1), bids, false)
		}
	})
}

// sideTable has bids that are fair or not, the first stakes with which somebody surely wins, and whether they are tight.
var sideTable = []struct {
	worlds  int
	bids    []impl.Bid
	fair    bool
	winning []int
	tight   bool
}{
	{1, nil, true, nil, true}, // no bids
	{4, nil, true, nil, true},
	{4, []impl.Bid{}, true, nil, true},
	{3, []impl.Bid{{Event: 3, Low: 2, High: 4}, {Event: 1, Low: 3, High: 5}}, true, nil, false},
	{3, []impl.Bid{{Event: 3, Low: 2, High: 4}}, true, nil, true},
	{3, []impl.Bid{{Event: 3, Low: 3, High: 4}, {Event: 1, Low: 3, High: 4}}, true, nil, true},
	{3, []impl.Bid{{Event: 3, Low: 1, High: 2}, {Event: 1, Low: 3, High: 5}}, false, []int{1, -1}, false},
	{3, []impl.Bid{{Event: 1, Low: 3, High: 5}, {Event: 3, Low: 1, High: 2}}, false, []int{-1, 1}, false},
	// Events that never and always come true.
	{4, []impl.Bid{{}}, true, nil, true},
	{4, []impl.Bid{{Event: 0, Low: 0, High: 1}}, true, nil, false},
	{4, []impl.Bid{{Event: 0, Low: 0, High: 6}}, true, nil, false},
	{4, []impl.Bid{{Event: 0, Low: 1, High: 6}}, false, []int{-1}, false},
	{4, []impl.Bid{{Event: 0, Low: 6, High: 6}}, false, []int{-1}, false},
	{4, []impl.Bid{{Event: 15, Low: 6, High: 6}}, true, nil, true},
	{4, []impl.Bid{{Event: 15, Low: 5, High: 6}}, true, nil, false},
	{4, []impl.Bid{{Event: 15, Low: 0, High: 6}}, true, nil, false},
	{4, []impl.Bid{{Event: 15, Low: 0, High: 5}}, false, []int{1}, false},
	{4, []impl.Bid{{Event: 15}}, false, []int{1}, false},
	{1, []impl.Bid{{Event: 1, Low: 6, High: 6}}, true, nil, true},
	{1, []impl.Bid{{Event: 1, Low: 2, High: 5}}, false, []int{1}, false},
	{1, []impl.Bid{{Event: 0, Low: 2, High: 5}}, false, []int{-1}, false},
	{1, []impl.Bid{{Event: 0}, {Event: 1, Low: 6, High: 6}}, true, nil, true},
	{2, []impl.Bid{{Event: 1, Low: 0, High: 6}}, true, nil, true},
	{2, []impl.Bid{{Event: 1}}, true, nil, true}, // Low and High the same, both 0
	{2, []impl.Bid{{Event: 1, Low: 6, High: 6}}, true, nil, true},
	{2, []impl.Bid{{Event: 1, Low: 3, High: 3}}, true, nil, true},
	// One event twice: with prices apart, with prices that touch, and with some in common.
	{2, []impl.Bid{{Event: 1, Low: 1, High: 2}, {Event: 1, Low: 3, High: 5}}, false, []int{1, -1}, false},
	{2, []impl.Bid{{Event: 1, Low: 3, High: 5}, {Event: 1, Low: 1, High: 2}}, false, []int{-1, 1}, false},
	{2, []impl.Bid{{Event: 1, Low: 1, High: 3}, {Event: 1, Low: 3, High: 5}}, true, nil, false},
	{2, []impl.Bid{{Event: 1, Low: 1, High: 4}, {Event: 1, Low: 3, High: 5}}, true, nil, false},
	{2, []impl.Bid{{Event: 1, Low: 1, High: 4}, {Event: 1, Low: 1, High: 4}}, true, nil, true},
	{2, []impl.Bid{{Event: 1, Low: 2, High: 2}, {Event: 1, Low: 3, High: 3}}, false, []int{1, -1}, false},
	// An event and its other: both are bought too low, sold too high, or neither.
	{2, []impl.Bid{{Event: 1, Low: 1, High: 2}, {Event: 2, Low: 1, High: 3}}, false, []int{1, 1}, false},
	{2, []impl.Bid{{Event: 1, Low: 4, High: 5}, {Event: 2, Low: 3, High: 6}}, false, []int{-1, -1}, false},
	{2, []impl.Bid{{Event: 1, Low: 2, High: 4}, {Event: 2, Low: 2, High: 4}}, true, nil, true},
	{2, []impl.Bid{{Event: 1, Low: 2, High: 4}, {Event: 2, Low: 2, High: 5}}, true, nil, false},
	{2, []impl.Bid{{Event: 1, Low: 1, High: 4}, {Event: 2, Low: 2, High: 4}}, true, nil, false},
	// Of stakes with the same sum the first ones have the lesser stake at the first place.
	{4, []impl.Bid{{Event: 0, Low: 1, High: 6}, {Event: 15, Low: 0, High: 5}}, false, []int{-1, 0}, false},
	{4, []impl.Bid{{Event: 15, Low: 0, High: 5}, {Event: 0, Low: 1, High: 6}}, false, []int{0, -1}, false},
	{4, []impl.Bid{{Event: 15}, {Event: 15}, {Event: 15}}, false, []int{0, 0, 1}, false},
	{4, []impl.Bid{{Low: 1, High: 1}, {Low: 6, High: 6}, {Low: 6, High: 6}}, false, []int{-1, 0, 0}, false},
	{3, []impl.Bid{{Event: 1, Low: 4, High: 4}, {Event: 1, Low: 3, High: 3}, {Event: 1, Low: 2, High: 2}}, false, []int{-1, 0, 1}, false},
	{3, []impl.Bid{{Event: 1, Low: 2, High: 2}, {Event: 1, Low: 3, High: 3}, {Event: 1, Low: 4, High: 4}}, false, []int{0, 1, -1}, false},
	{3, []impl.Bid{{Event: 1, Low: 2, High: 2}, {Event: 1, Low: 0, High: 6}, {Event: 1, Low: 4, High: 4}}, false, []int{1, 0, -1}, false},
	// Two worlds of three each: three stakes are needed.
	{3, []impl.Bid{{Event: 3, Low: 1, High: 3}, {Event: 5, Low: 2, High: 4}, {Event: 6, Low: 3, High: 4}}, false, []int{1, 1, 1}, false},
	{3, []impl.Bid{{Event: 3, Low: 1, High: 4}, {Event: 5, Low: 2, High: 4}, {Event: 6, Low: 3, High: 4}}, true, nil, false},
	{3, []impl.Bid{{Event: 3, Low: 4, High: 4}, {Event: 5, Low: 4, High: 4}, {Event: 6, Low: 4, High: 4}}, true, nil, true},
	{3, []impl.Bid{{Event: 3, Low: 5, High: 6}, {Event: 5, Low: 4, High: 6}, {Event: 6, Low: 4, High: 5}}, false, []int{-1, -1, -1}, false},
	{4, []impl.Bid{{Event: 1, Low: 2, High: 3}, {Event: 2, Low: 2, High: 3}, {Event: 4, Low: 2, High: 3}}, true, nil, false},
	{4, []impl.Bid{{Event: 1, Low: 2, High: 2}, {Event: 2, Low: 2, High: 2}, {Event: 4, Low: 2, High: 2}}, true, nil, true},
	{4, []impl.Bid{{Event: 1, Low: 2, High: 3}, {Event: 2, Low: 2, High: 3}, {Event: 4, Low: 3, High: 3}}, false, []int{-1, -1, -1}, false},
	{4, []impl.Bid{{Event: 1, Low: 0, High: 2}, {Event: 6, Low: 0, High: 2}, {Event: 7, Low: 5, High: 6}}, false, []int{1, 1, -1}, false},
	{4, []impl.Bid{{Event: 1, Low: 0, High: 2}, {Event: 6, Low: 0, High: 2}, {Event: 7, Low: 4, High: 6}}, true, nil, false},
	{4, []impl.Bid{{Event: 1, Low: 2, High: 2}, {Event: 6, Low: 2, High: 2}, {Event: 7, Low: 4, High: 4}}, true, nil, true},
	// A measure fits, but none in sixths: each of the worlds 0 to 3 has nine grains.
	{4, []impl.Bid{{Event: 3, Low: 3, High: 3}, {Event: 5, Low: 3, High: 3}, {Event: 6, Low: 3, High: 3}}, true, nil, true},
	{4, []impl.Bid{{Event: 3, Low: 3, High: 3}, {Event: 5, Low: 3, High: 3}, {Event: 6, Low: 0, High: 6}}, true, nil, true},
	// Others are neither fair nor tight, and nobody surely wins.
	{4, make([]impl.Bid, 4), false, nil, false},
	{4, []impl.Bid{{Event: 15}, {Event: 15}, {Event: 15}, {Event: 15}}, false, nil, false},
	{4, []impl.Bid{{Event: 16, Low: 6, High: 6}}, false, nil, false},
	{4, []impl.Bid{{Event: -1}}, false, nil, false},
	{4, []impl.Bid{{Event: 0, Low: 2, High: 1}}, false, nil, false},
	{4, []impl.Bid{{Event: 0, Low: 6, High: 7}}, false, nil, false},
	{4, []impl.Bid{{Event: 15, Low: -1, High: 5}}, false, nil, false},
	{4, []impl.Bid{{Event: 15}, {Event: 15, Low: -1, High: 5}}, false, nil, false},
	{0, nil, false, nil, false},
	{5, nil, false, nil, false},
	{5, []impl.Bid{{Event: 15}}, false, nil, false},
	{math.MinInt, nil, false, nil, false},
	{math.MaxInt, nil, false, nil, false},
	{4, []impl.Bid{{Event: math.MaxInt}}, false, nil, false},
	{4, []impl.Bid{{Event: 15, Low: math.MinInt, High: 5}}, false, nil, false},
	{4, []impl.Bid{{Event: 0, Low: 1, High: math.MaxInt}}, false, nil, false},
}

func TestSidesOfSomeBids(t *testing.T) {
	for _, c := range sideTable {
		if got := impl.SidesFair(c.worlds, c.bids); got != c.fair {
			t.Errorf("SidesFair(%d, %v) = %t", c.worlds, c.bids, got)
		}
		if stakes, ok := impl.WinningStakes(c.worlds, c.bids); ok != (c.winning != nil) || !slices.Equal(stakes, c.winning) {
			t.Errorf("WinningStakes(%d, %v) = %v, %t", c.worlds, c.bids, stakes, ok)
		}
		if got := impl.TightOk(c.worlds, c.bids); got != c.tight {
			t.Errorf("TightOk(%d, %v) = %t", c.worlds, c.bids, got)
		}
	}
}

func TestPromise83TwoSidedPricesAreFairJustIfNobodySurelyWins(t *testing.T) {
	fairOnes, others := map[int]int{}, map[int]int{}
	for _, c := range sideCases() {
		fair := impl.SidesFair(c.worlds, c.bids)
		if _, wins := impl.WinningStakes(c.worlds, c.bids); fair != c.fair() || fair == wins {
			t.Fatalf("SidesFair(%d, %v) = %t, but somebody surely wins: %t", c.worlds, c.bids, fair, wins)
		}
		if fair {
			fairOnes[len(c.bids)]++
		} else {
			others[len(c.bids)]++
		}
		for _, price := range []func(bid impl.Bid) int{lowOf, highOf} {
			same, book := atOnePrice(c.bids, price), quotesBetween(c.bids, price)
			if got, want := impl.SidesFair(c.worlds, same), impl.FairOk(c.worlds, book); got != want {
				t.Fatalf("SidesFair(%d, %v) = %t, but FairOk of these quotes is %t", c.worlds, same, got, want)
			}
			if _, wins := impl.WinningStakes(c.worlds, same); wins == impl.SafeOk(c.worlds, book) {
				t.Fatalf("%d worlds: by %v somebody surely wins: %t, but SafeOk of these quotes is %t", c.worlds, same, wins, wins)
			}
		}
	}
	for count := range 4 {
		if fairOnes[count] < 4 || count > 0 && (fairOnes[count] < 100 || others[count] < 50) {
			t.Errorf("of %d bids %d are fair, and %d are not", count, fairOnes[count], others[count])
		}
	}
}

// TestNoSidesOfOthers: what is no bids is neither fair nor tight, has no bounds, and nobody wins by it.
func TestNoSidesOfOthers(t *testing.T) {
	eachNoBids(func(worlds int, bids []impl.Bid) {
		if impl.SidesFair(worlds, bids) {
			t.Fatalf("SidesFair(%d, %v) = true", worlds, bids)
		}
		if impl.TightOk(worlds, bids) {
			t.Fatalf("TightOk(%d, %v) = true", worlds, bids)
		}
		checkWinning(t, worlds, bids, nil)
		for _, event := range []int{0, 1, 15} {
			checkSides(t, worlds, bids, event, -1, -1)
		}
		for _, stake := range []int{-1, 0, 1} {
			checkTakenBids(t, worlds, bids, slices.Repeat([]int{stake}, len(bids)), nil)
		}
		checkTakenBids(t, worlds, bids, nil, nil)
	})
}

func TestGainsOfSomeTakers(t *testing.T) {
	two := []impl.Bid{{Event: 3, Low: 1, High: 2}, {Event: 1, Low: 3, High: 5}}
	wide := impl.Bid{Event: 1, Low: 0, High: 6}
	for _, c := range []struct {
		worlds int
		bids   []impl.Bid
		stakes []int
		want   []int
	}{
		{3, two, []int{1, -1}, []int{1, 7, 1}}, // stakes of both signs
		{3, two, []int{-1, 1}, []int{-4, -10, -4}},
		{3, two, []int{1, 1}, []int{5, -1, -7}},
		{3, two, []int{-1, -1}, []int{-8, -2, 4}},
		{3, two, []int{0, 0}, []int{0, 0, 0}},
		{3, two, []int{2, 0}, []int{8, 8, -4}},
		{3, two, []int{0, -2}, []int{-6, 6, 6}},
		{3, two, []int{2, -2}, []int{2, 14, 2}},
		{3, two, []int{9, -9}, []int{9, 63, 9}},
		{2, two, []int{1, -1}, []int{1, 7}},
		{3, two, []int{10, -9}, nil}, // past MaxStake
		{3, two, []int{9, -10}, nil},
		{3, two, []int{1}, nil}, // rows of other numbers
		{3, two, []int{1, -1, 0}, nil},
		{3, two, nil, nil},
		{1, two, []int{1, -1}, nil}, // one world has no event 3
		{2, []impl.Bid{wide}, []int{1}, []int{0, -6}},
		{2, []impl.Bid{wide}, []int{-1}, []int{-6, 0}},
		{2, []impl.Bid{wide}, []int{0}, []int{0, 0}},
		{2, []impl.Bid{wide}, []int{9}, []int{0, -54}},
		{2, []impl.Bid{wide}, []int{-9}, []int{-54, 0}},
		{2, []impl.Bid{wide}, []int{10}, nil},
		{2, []impl.Bid{wide}, []int{-10}, nil},
		{2, []impl.Bid{wide, wide, wide}, []int{9, -9, 9}, []int{-54, -108}},
		{2, []impl.Bid{wide, wide, wide, wide}, []int{1, 1, 1, 1}, nil},
		{4, []impl.Bid{{Event: 15}, {Event: 15}, {Event: 15}}, []int{9, 9, 9}, []int{162, 162, 162, 162}},
		{4, []impl.Bid{{Low: 6, High: 6}, {Low: 6, High: 6}, {Low: 6, High: 6}}, []int{9, 9, 9}, []int{-162, -162, -162, -162}},
		{1, nil, nil, []int{0}},
		{4, nil, []int{}, []int{0, 0, 0, 0}},
		{4, []impl.Bid{}, nil, []int{0, 0, 0, 0}},
		{4, nil, []int{0}, nil},
		{4, nil, []int{1}, nil},
		{0, nil, nil, nil},
		{5, nil, nil, nil},
		{math.MinInt, nil, nil, nil},
		{math.MaxInt, nil, nil, nil},
		{2, []impl.Bid{{Event: 1, Low: 3, High: 2}}, []int{1}, nil},
		{2, []impl.Bid{{Event: 1, Low: 3, High: 2}}, []int{0}, nil},
		{2, []impl.Bid{{Event: 1, Low: -1, High: 2}}, []int{1}, nil}, // only the other price would be taken
		{2, []impl.Bid{{Event: 1, Low: 3, High: 7}}, []int{-1}, nil},
		{2, []impl.Bid{{Event: 4, Low: 3, High: 3}}, []int{0}, nil},
		{2, []impl.Bid{wide}, []int{math.MinInt}, nil},
		{2, []impl.Bid{wide}, []int{math.MaxInt}, nil},
	} {
		if gain, ok := impl.TakerGain(c.worlds, c.bids, c.stakes); ok != (c.want != nil) || !slices.Equal(gain, c.want) {
			t.Errorf("TakerGain(%d, %v, %v) = %v, %t, not %v", c.worlds, c.bids, c.stakes, gain, ok, c.want)
		}
	}
}

// eachTaken calls a function with bids and stakes: all single ones, and some rows of others.
func eachTaken(do func(worlds int, bids []impl.Bid, stakes []int)) {
	for worlds := 1; worlds <= 4; worlds++ {
		for _, bid := range allBids(worlds) {
			for _, stake := range allStakes() {
				do(worlds, []impl.Bid{bid}, []int{stake})
			}
		}
	}
	draw := drawer(84)
	for _, c := range sideCases() {
		if len(c.bids) < 2 || c.worlds <= 2 && draw(8) > 0 {
			continue // of two bids of one or two worlds there are many
		}
		for _, stakes := range append(someStakes(draw, len(c.bids)), triedStakes[len(c.bids)][draw(len(triedStakes[len(c.bids)]))]) {
			do(c.worlds, c.bids, stakes)
		}
	}
}

func TestTakersGainWorldByWorld(t *testing.T) {
	eachTaken(func(worlds int, bids []impl.Bid, stakes []int) {
		checkTakenBids(t, worlds, bids, stakes, takenGain(worlds, bids, stakes))
	})
	for worlds := 1; worlds <= impl.MaxWorlds; worlds++ {
		checkTakenBids(t, worlds, nil, nil, make([]int, worlds))
		checkTakenBids(t, worlds, []impl.Bid{}, []int{}, make([]int, worlds))
	}
}

func TestPromise84TakingAndGivingBackLosesTheDifference(t *testing.T) {
	lost, nothing := 0, 0
	eachTaken(func(worlds int, bids []impl.Bid, stakes []int) {
		gain, ok := impl.TakerGain(worlds, bids, stakes)
		back, backOk := impl.TakerGain(worlds, bids, otherSigns(stakes))
		sum, sumOk := impl.SumGamble(gain, back)
		difference := 0
		for i, bid := range bids {
			difference += max(stakes[i], -stakes[i]) * (bid.Low - bid.High)
		}
		if !ok || !backOk || !sumOk || !slices.Equal(sum, slices.Repeat([]int{difference}, worlds)) {
			t.Fatalf("%d worlds: %v at %v, and given back, bring %v, %t, not %d", worlds, bids, stakes, sum, sumOk, difference)
		}
		if difference < 0 {
			lost++
		} else {
			nothing++
		}
		for _, price := range []func(bid impl.Bid) int{lowOf, highOf} {
			same := atOnePrice(bids, price)
			gain, _ := impl.TakerGain(worlds, same, stakes)
			back, _ := impl.TakerGain(worlds, same, otherSigns(stakes))
			if sum, ok := impl.SumGamble(gain, back); !ok || !slices.Equal(sum, make([]int, worlds)) {
				t.Fatalf("%d worlds: %v at %v, and given back, bring %v, %t", worlds, same, stakes, sum, ok)
			}
			if balance, ok := impl.BalanceOf(worlds, quotesBetween(bids, price), stakes); !ok || !slices.Equal(balance, gain) {
				t.Fatalf("%d worlds: %v at %v bring %v, but these quotes %v, %t", worlds, same, stakes, gain, balance, ok)
			}
		}
	})
	if lost < 10000 || nothing < 1000 {
		t.Errorf("%d lose a difference, %d nothing", lost, nothing)
	}
	for _, worlds := range worldNumbers {
		if countOfEvents[worlds] == 0 {
			checkTakenBids(t, worlds, nil, nil, nil)
			checkTakenBids(t, worlds, []impl.Bid{{}}, []int{0}, nil)
		}
	}
}

func TestTakersAtOtherStakesGainNothing(t *testing.T) {
	draw := drawer(184)
	for _, c := range sideCases() {
		for count := range 6 {
			if count != len(c.bids) {
				checkTakenBids(t, c.worlds, c.bids, make([]int, count), nil)
				checkTakenBids(t, c.worlds, c.bids, slices.Repeat([]int{9}, count), nil)
			}
		}
		for at := range c.bids {
			for _, bad := range []int{-10, 10, badStakes[draw(len(badStakes))]} {
				stakes := drawStakes(draw, len(c.bids))
				stakes[at] = bad
				checkTakenBids(t, c.worlds, c.bids, stakes, nil)
			}
		}
	}
	for worlds := 1; worlds <= impl.MaxWorlds; worlds++ {
		for _, bad := range badStakes {
			checkTakenBids(t, worlds, nil, []int{bad}, nil)
			checkTakenBids(t, worlds, []impl.Bid{{}}, []int{bad}, nil)
			checkTakenBids(t, worlds, []impl.Bid{{}}, []int{0, bad}, nil)
			checkTakenBids(t, worlds, []impl.Bid{{High: 6}, {Event: 1}, {Event: 1, High: 6}}, []int{bad, bad, bad}, nil)
		}
	}
}

func TestWinningStakesAreTheFirstOnes(t *testing.T) {
	bySum, several := map[int]int{}, 0
	check := func(worlds int, bids []impl.Bid) {
		want, wins := firstWinning(worlds, bids)
		checkWinning(t, worlds, bids, want)
		if !wins {
			return
		}
		sum := withoutSigns(want)
		bySum[sum]++
		if slices.ContainsFunc(triedStakes[len(bids)], func(row []int) bool {
			return withoutSigns(row) == sum && !slices.Equal(row, want) && winsEverywhere(worlds, bids, row)
		}) {
			several++
		}
	}
	for _, c := range sideCases() {
		check(c.worlds, c.bids)
	}
	// Of drawn bids few are fair, above all at one price each.
	draw := drawer(85)
	for worlds := 1; worlds <= 4; worlds++ {
		for range 2000 {
			bids := drawBids(draw, worlds, 2+draw(2))
			check(worlds, bids)
			check(worlds, atOnePrice(bids, []func(bid impl.Bid) int{lowOf, highOf}[draw(2)]))
		}
	}
	if bySum[1] < 1000 || bySum[2] < 1000 || bySum[3] < 20 || several < 1000 {
		t.Errorf("winning stakes by their sum: %v; %d times others of the same sum win", bySum, several)
	}
}

// nearerWins tells a row of stakes, of which one is nearer to 0 by one, that still surely wins, if there is any.
func nearerWins(worlds int, bids []impl.Bid, stakes []int) []int {
	for at, stake := range stakes {
		if stake == 0 {
			continue
		}
		row := nearer(stakes, at)
		gain, _ := impl.TakerGain(worlds, bids, row)
		if worst, ok := impl.WorstOf(gain); ok && worst > 0 {
			return row
		}
	}
	return nil
}

func TestPromise85EitherAMeasureFitsOrSomebodySurelyWins(t *testing.T) {
	fair, won := 0, 0
	for _, c := range sideCases() {
		stakes, ok := impl.WinningStakes(c.worlds, c.bids)
		if ok == impl.SidesFair(c.worlds, c.bids) || ok == c.fair() {
			t.Fatalf("WinningStakes(%d, %v) = %v, %t, though a measure fits: %t", c.worlds, c.bids, stakes, ok, c.fair())
		}
		if !ok {
			fair++
			if len(stakes) != 0 {
				t.Fatalf("WinningStakes(%d, %v) = %v beside false", c.worlds, c.bids, stakes)
			}
			continue
		}
		won++
		gain, gainOk := impl.TakerGain(c.worlds, c.bids, stakes)
		worst, worstOk := impl.WorstOf(gain)
		if !gainOk || !worstOk || worst <= 0 || slices.Max(stakes) > 2 || slices.Min(stakes) < -2 {
			t.Fatalf("WinningStakes(%d, %v) = %v, which bring %v", c.worlds, c.bids, stakes, gain)
		}
		if row := nearerWins(c.worlds, c.bids, stakes); row != nil {
			t.Fatalf("WinningStakes(%d, %v) = %v, but %v surely win as well", c.worlds, c.bids, stakes, row)
		}
		// What surely wins does so at stakes of MaxSure.
		for i := range stakes {
			stakes[i] *= 2
		}
		if twice, ok := impl.TakerGain(c.worlds, c.bids, stakes); !ok || slices.Min(twice) != 2*worst {
			t.Fatalf("%d worlds: %v at %v bring %v, %t, not twice %v", c.worlds, c.bids, stakes, twice, ok, gain)
		}
	}
	if fair < 1000 || won < 1000 {
		t.Errorf("%d times a measure fits, %d times somebody surely wins", fair, won)
	}
}

// TestOneEventTwice: all pairs of prices for one event are held against each other.
func TestOneEventTwice(t *testing.T) {
	for worlds := 1; worlds <= impl.MaxWorlds; worlds++ {
		always := countOfEvents[worlds] - 1
		for event := 0; event <= always; event++ {
			if worlds == 4 && event%5 > 1 {
				continue
			}
			for _, first := range pricePairs() {
				for _, second := range pricePairs() {
					bids := bidsOn(event, [][2]int{first, second})
					low, high := max(first[0], second[0]), min(first[1], second[1])
					fair := low <= high && (event > 0 || low == 0) && (event < always || high == 6)
					if got := impl.SidesFair(worlds, bids); got != fair {
						t.Fatalf("SidesFair(%d, %v) = %t", worlds, bids, got)
					}
					switch sometimes := event > 0 && event < always; {
					case fair:
						checkWinning(t, worlds, bids, nil)
					case sometimes && first[1] < second[0]:
						checkWinning(t, worlds, bids, []int{1, -1})
					case sometimes:
						checkWinning(t, worlds, bids, []int{-1, 1})
					}
				}
			}
		}
	}
}

func TestBoundsOfSomeSides(t *testing.T) {
	two := []impl.Bid{{Event: 3, Low: 2, High: 4}, {Event: 1, Low: 3, High: 5}}
	unfair := []impl.Bid{{Event: 3, Low: 1, High: 2}, {Event: 1, Low: 3, High: 5}}
	touch := []impl.Bid{{Event: 1, Low: 1, High: 2}, {Event: 1, Low: 2, High: 5}}
	nines := []impl.Bid{{Event: 3, Low: 3, High: 3}, {Event: 5, Low: 3, High: 3}, {Event: 6, Low: 3, High: 4}}
	for _, c := range []struct {
		worlds      int
		bids        []impl.Bid
		event       int
		least, most int
	}{
		{3, two, 0, 0, 0}, // never
		{3, two, 1, 18, 24},
		{3, two, 2, 0, 6},
		{3, two, 3, 18, 24},
		{3, two, 4, 12, 18},
		{3, two, 5, 30, 36},
		{3, two, 6, 12, 18},
		{3, two, 7, 36, 36}, // always
		{3, two, 8, -1, -1},
		{3, two, -1, -1, -1},
		{3, two, math.MinInt, -1, -1},
		{3, two, math.MaxInt, -1, -1},
		{2, two, 1, -1, -1}, // of two worlds 3 is always, and not at four sixths
		{1, two, 0, -1, -1},
		{4, two, 8, 0, 18},
		{4, two, 12, 12, 18},
		{3, unfair, 1, -1, -1},
		{3, unfair, 0, -1, -1},
		{3, unfair, 7, -1, -1},
		{2, touch, 1, 12, 12},
		{2, touch, 2, 24, 24},
		{4, touch, 2, 0, 24},
		{4, nines, 1, 6, 9},
		{4, nines, 2, 9, 12},
		{4, nines, 8, 6, 9},
		{4, nines, 6, 18, 24},
		{1, nil, 0, 0, 0},
		{1, nil, 1, 36, 36},
		{1, nil, 2, -1, -1},
		{4, nil, 7, 0, 36},
		{4, []impl.Bid{}, 8, 0, 36},
		{4, nil, 15, 36, 36},
		{4, nil, 16, -1, -1},
		{0, nil, 0, -1, -1},
		{5, nil, 0, -1, -1},
		{math.MinInt, nil, 0, -1, -1},
		{math.MaxInt, nil, 0, -1, -1},
		{4, []impl.Bid{{Event: 1}}, 1, 0, 0},
		{4, []impl.Bid{{Event: 1}}, 14, 36, 36},
		{4, []impl.Bid{{Event: 1, Low: 6, High: 6}}, 2, 0, 0},
		{4, []impl.Bid{{Event: 1, Low: 5, High: 6}}, 2, 0, 6},
		{4, []impl.Bid{{Event: 0, Low: 0, High: 6}, {Event: 15, Low: 0, High: 6}}, 1, 0, 36},
		{4, []impl.Bid{{Event: 0, Low: 1, High: 6}}, 1, -1, -1},
		{4, []impl.Bid{{Event: 15, Low: 0, High: 5}}, 15, -1, -1},
		{4, []impl.Bid{{Event: 1, Low: 2, High: 1}}, 1, -1, -1},
		{4, []impl.Bid{{Event: 1, Low: -1, High: 1}}, 1, -1, -1},
		{4, []impl.Bid{{Event: 1, Low: 1, High: 7}}, 1, -1, -1},
		{4, []impl.Bid{{Event: 16, Low: 1, High: 2}}, 1, -1, -1},
		{4, make([]impl.Bid, 3), 1, 0, 36},
		{4, make([]impl.Bid, 4), 1, -1, -1},
	} {
		if least, most, ok := impl.SidesOn(c.worlds, c.bids, c.event); ok != (c.least >= 0) || least != c.least || most != c.most {
			t.Errorf("SidesOn(%d, %v, %d) = %d, %d, %t, not from %d to %d", c.worlds, c.bids, c.event, least, most, ok, c.least, c.most)
		}
	}
}

// checkBetween tests that the bounds of a fair book of prices between are between those of bids.
func checkBetween(t *testing.T, c sideCase, event int, book []impl.Quote) bool {
	t.Helper()
	least, most := impl.LeastOn(c.worlds, book, event), impl.MostOn(c.worlds, book, event)
	if least < 0 {
		return false
	}
	if from, to, ok := impl.SidesOn(c.worlds, c.bids, event); !ok || least < from || most > to {
		t.Fatalf("%d worlds: by %v there are on %d from %d to %d, but by %v from %d to %d, %t", c.worlds, book, event, least, most, c.bids, from, to, ok)
	}
	return true
}

func TestPromise86BoundsOfTwoSidedPricesAreConjugate(t *testing.T) {
	draw, open, shut, none, between := drawer(86), 0, 0, 0, 0
	for _, c := range sideCases() {
		fair := impl.SidesFair(c.worlds, c.bids)
		book := quotesBetween(c.bids, lowOf)
		drawn := quotesBetween(c.bids, func(bid impl.Bid) int { return bid.Low + draw(bid.High-bid.Low+1) })
		for _, event := range c.events(draw) {
			checkSides(t, c.worlds, c.bids, event, c.least(event), c.most(event))
			least, most, ok := impl.SidesOn(c.worlds, c.bids, event)
			if ok != fair {
				t.Fatalf("%d worlds: %v are fair: %t, but bounds of %d are told: %t", c.worlds, c.bids, fair, event, ok)
			}
			otherLeast, otherMost, otherOk := impl.SidesOn(c.worlds, c.bids, impl.NotEvent(c.worlds, event))
			if otherOk != ok || ok && (least+otherMost != impl.Grains || most+otherLeast != impl.Grains) {
				t.Fatalf("%d worlds: by %v there are on %d from %d to %d, and on its other from %d to %d", c.worlds, c.bids, event, least, most, otherLeast, otherMost)
			}
			switch {
			case !ok:
				none++
				continue
			case least < most:
				open++
			default:
				shut++
			}
			if checkBetween(t, c, event, book) {
				between++
			}
			if c.worlds < 4 || event%4 == 1 {
				checkBetween(t, c, event, drawn)
			}
		}
	}
	if open < 1000 || shut < 1000 || none < 1000 || between < 1000 {
		t.Errorf("%d bounds differ, %d are the same, %d are none, and between %d are those of quotes", open, shut, none, between)
	}
}

// TestNoSidesOfOtherEvents: no bounds are told of what is no event, whether bids are fair or not.
func TestNoSidesOfOtherEvents(t *testing.T) {
	for _, worlds := range worldNumbers {
		for _, event := range eventNumbers() {
			if isEvent(worlds, event) {
				continue
			}
			for _, bids := range [][]impl.Bid{nil, {{}}, {{Event: 1, High: 6}}, {{Event: 1}}, {{Event: 1, Low: 6, High: 6}, {High: 6}, {Event: 1, High: 6}}} {
				checkSides(t, worlds, bids, event, -1, -1)
			}
		}
	}
}

// tightened returns bids with the prices that are the bounds of their events.
func tightened(c sideCase) []impl.Bid {
	bids := slices.Clone(c.bids)
	for i, bid := range bids {
		bids[i].Low, bids[i].High = c.least(bid.Event)/6, c.most(bid.Event)/6
	}
	return bids
}

// widened returns bids with a low price less by one, or with a high price more by one, at a drawn place, if it can be.
func widened(draw func(below int) int, bids []impl.Bid) []impl.Bid {
	wider := slices.Clone(bids)
	bid := &wider[draw(len(bids))]
	if draw(2) == 0 {
		bid.Low = max(0, bid.Low-1)
	} else {
		bid.High = min(6, bid.High+1)
	}
	return wider
}

// checkTight tests what TightOk reports, and that tight prices are fair.
func checkTight(t *testing.T, c sideCase) bool {
	t.Helper()
	tight := impl.TightOk(c.worlds, c.bids)
	if tight != c.tight() {
		t.Fatalf("TightOk(%d, %v) = %t", c.worlds, c.bids, tight)
	}
	if tight && !impl.SidesFair(c.worlds, c.bids) {
		t.Fatalf("%d worlds: %v are tight, but not fair", c.worlds, c.bids)
	}
	return tight
}

func TestPromise87TightPricesAreFairAndNoneCanBeBetter(t *testing.T) {
	draw := drawer(87)
	tight, loose, stay, widen := map[int]int{}, map[int]int{}, 0, 0
	for i, c := range sideCases() {
		if checkTight(t, c) {
			tight[len(c.bids)]++
		} else if c.fair() {
			loose[len(c.bids)]++
		}
		if !c.fair() || len(c.bids) < 2 || c.worlds == 4 && i%4 > 0 {
			continue
		}
		// With their bounds as prices they fit as before, and one price more or less is tight just if it is reached.
		best := sidesOf(c.worlds, tightened(c))
		if !slices.Equal(best.seenGrains, c.seenGrains) || !checkTight(t, best) {
			t.Fatalf("%d worlds: %v have the bounds of %v, but are not tight", c.worlds, best.bids, c.bids)
		}
		if checkTight(t, sidesOf(c.worlds, widened(draw, best.bids))) {
			stay++
		} else {
			widen++
		}
	}
	for count := range 4 {
		if tight[count] < 4 || count > 0 && (tight[count] < 50 || loose[count] < 20) {
			t.Errorf("of %d bids %d are tight, and %d are fair alone", count, tight[count], loose[count])
		}
	}
	if stay < 50 || widen < 50 {
		t.Errorf("with a wider price %d are tight, and %d are not", stay, widen)
	}
}

// TestTightSingleBids: one bid is tight just if its event sometimes comes true and sometimes not, or if both of its prices are those of what always comes true, or never.
func TestTightSingleBids(t *testing.T) {
	for _, worlds := range worldNumbers {
		always := countOfEvents[worlds] - 1
		if got := impl.TightOk(worlds, nil); got != (always > 0) || got != impl.TightOk(worlds, []impl.Bid{}) {
			t.Errorf("TightOk(%d, nothing) = %t", worlds, got)
		}
		for _, bid := range allBids(worlds) {
			want := bid.Event > 0 && bid.Event < always || bid == impl.Bid{} || bid == impl.Bid{Event: always, Low: 6, High: 6}
			if got := impl.TightOk(worlds, []impl.Bid{bid}); got != want {
				t.Fatalf("TightOk(%d, {%v}) = %t", worlds, bid, got)
			}
		}
	}
}

func TestSidesAreNewMemory(t *testing.T) {
	room := []impl.Bid{{Event: 1, Low: 0, High: 2}, {Event: 1, Low: 4, High: 5}, {Event: 2, Low: 0, High: 1}, {Event: 0, Low: 6, High: 6}, {Event: 1, Low: 1, High: 1}}
	for worlds := 2; worlds <= impl.MaxWorlds; worlds++ {
		for count := range 4 {
			for _, row := range [][]int{{0, 0, 0, 8, 8}, {1, -2, 3, 8, 8}, {9, 9, -9, 8, 8}} {
				checkNewMemory(t, row, count, func(stakes []int) []int {
					gain, _ := impl.TakerGain(worlds, room[:count], stakes)
					return gain
				})
				checkNewItems(t, room, count, 777, func(bids []impl.Bid) []int {
					gain, _ := impl.TakerGain(worlds, bids, row[:count])
					return gain
				})
			}
			if count < 2 {
				continue // nobody wins by one of these alone
			}
			checkNewItems(t, room, count, 777, func(bids []impl.Bid) []int {
				impl.SidesFair(worlds, bids)
				impl.TightOk(worlds, bids)
				stakes, _ := impl.WinningStakes(worlds, bids)
				return stakes
			})
		}
	}
}

// TestSidesOnlyRead: no function of the chapter writes to bids, to a measure or to stakes, or to the room behind them, also not for calls that have no result.
func TestSidesOnlyRead(t *testing.T) {
	for _, list := range [][]impl.Bid{
		{{Event: 1, Low: 2, High: 4}, {Event: 3, Low: 6, High: 6}, {Event: 2, Low: 2, High: 4}, {Event: 1, Low: 0, High: 1}, {Event: 7, Low: 7, High: 7}},
		{{Event: 1, Low: 4, High: 6}, {Event: 1, Low: 0, High: 2}, {Event: 0, Low: 1, High: 1}, {Event: 1, Low: 3, High: 1}, {Event: 7, Low: 7, High: 7}},
		{{Event: 16, Low: 2, High: 4}, {Event: 1, Low: -1, High: 4}, {Event: -1, Low: 9, High: 1}, {Event: 1, Low: 3, High: 1}, {Event: 7, Low: 7, High: 7}},
	} {
		for _, numbers := range [][]int{{36, 0, 0, 0, 0}, {12, 24, 0, 0, 5}, {1, -1, 2, -2, 0}, {0, 0, 0, 36, 1}, {10, -10, math.MinInt, math.MaxInt, 5}} {
			bids, row := slices.Clone(list), slices.Clone(numbers)
			for count := range 6 {
				for length := range 6 {
					impl.FitsSides(row[:length], bids[:count])
				}
				for worlds := range 6 {
					impl.BidsOk(worlds, bids[:count])
					impl.SidesFair(worlds, bids[:count])
					impl.WinningStakes(worlds, bids[:count])
					impl.TightOk(worlds, bids[:count])
					for _, event := range []int{-1, 0, 1, 3} {
						impl.SidesOn(worlds, bids[:count], event)
					}
					for length := range 6 {
						impl.TakerGain(worlds, bids[:count], row[:length])
					}
				}
			}
			if !slices.Equal(bids, list) || !slices.Equal(row, numbers) {
				t.Errorf("%v or %v was written to: %v %v", list, numbers, bids, row)
			}
		}
	}
}
