package tests

import (
	"math"
	"slices"
	"testing"

	"loop.example/fairbooks/impl"
)

// edgeAmounts has amounts at the bounds, around nothing, and such that two of them are together just in or just out of the bounds.
var edgeAmounts = []int{-1000, -999, -501, -500, -1, 0, 1, 500, 501, 999, 1000}

// badAmounts has numbers that are no amounts: the first ones past the bounds, and others up to the least and the greatest integers.
var badAmounts = []int{math.MinInt, math.MinInt + 1, math.MinInt32, -1000000, -1002, -1001, 1001, 1002, 1000000, 1 << 32, math.MaxInt32, math.MaxInt - 1, math.MaxInt}

// isGamble tells by counting what GambleOk has to report.
func isGamble(g []int) bool {
	amounts := 0
	for _, amount := range g {
		if -1001 < amount && amount < 1001 {
			amounts++
		}
	}
	return amounts == len(g) && slices.Contains([]int{1, 2, 3, 4}, amounts)
}

// rowsOf returns all rows of a length whose items are some of these.
func rowsOf[T any](length int, items []T) [][]T {
	rows := [][]T{{}}
	for range length {
		var longer [][]T
		for _, row := range rows {
			for _, item := range items {
				longer = append(longer, append(slices.Clone(row), item))
			}
		}
		rows = longer
	}
	return rows
}

// edgeGambles returns gambles of all numbers of worlds, with amounts at the edges.
func edgeGambles() [][]int {
	list := append(rowsOf(1, edgeAmounts), rowsOf(2, edgeAmounts)...)
	list = append(list, rowsOf(3, []int{-1000, -500, -1, 0, 1, 501, 1000})...)
	return append(list, rowsOf(4, []int{-1000, -1, 0, 1, 1000})...)
}

// badGambles returns rows that are no gambles: of too few or too many amounts, or with a bad amount in any place.
func badGambles() [][]int {
	list := [][]int{nil, {}, {0, 0, 0, 0, 0}, {-1, -1, -1, -1, -1}, {1, 2, 3, 4, 5}, make([]int, 6), make([]int, 64), make([]int, 65), make([]int, 1000)}
	for worlds := 1; worlds <= 5; worlds++ {
		for _, bad := range badAmounts {
			for at := range worlds {
				for _, other := range []int{-1, 0, 7} {
					row := slices.Repeat([]int{other}, worlds)
					row[at] = bad
					list = append(list, row)
				}
			}
			list = append(list, slices.Repeat([]int{bad}, worlds))
		}
	}
	return list
}

// drawer returns a function that draws numbers from 0 on and less than a bound, the same ones each time for one seed.
func drawer(seed uint64) func(below int) int {
	return func(below int) int {
		seed ^= seed << 13
		seed ^= seed >> 7
		seed ^= seed << 17
		return int(seed >> 11 % uint64(below))
	}
}

// drawGamble draws a gamble of so many worlds with amounts of at most so much, without their signs.
func drawGamble(draw func(below int) int, worlds int, most int) []int {
	g := make([]int, worlds)
	for world := range g {
		g[world] = draw(2*most+1) - most
	}
	return g
}

// drawnGambles returns gambles of all numbers of worlds with amounts of all sizes.
func drawnGambles() [][]int {
	draw := drawer(2)
	var list [][]int
	for _, most := range []int{3, 40, 500, 1000} {
		for worlds := 1; worlds <= 4; worlds++ {
			for range 60 {
				list = append(list, drawGamble(draw, worlds, most))
			}
		}
	}
	return list
}

// eachGamble calls a function with gambles at the edges, and with drawn ones.
func eachGamble(do func(g []int)) {
	for _, g := range edgeGambles() {
		do(g)
	}
	for _, g := range drawnGambles() {
		do(g)
	}
}

// eachTwoGambles calls a function with pairs of gambles, also of different numbers of worlds.
func eachTwoGambles(do func(a []int, b []int)) {
	few := append(rowsOf(1, edgeAmounts), rowsOf(2, edgeAmounts)...)
	few = append(few, rowsOf(3, []int{-500, 0, 501})...)
	few = append(few, rowsOf(4, []int{-1000, 1, 999})...)
	for _, list := range [][][]int{few, drawnGambles()} {
		for _, a := range list {
			for _, b := range list {
				do(a, b)
			}
		}
	}
}

// otherSigns returns a row with all signs exchanged.
func otherSigns(g []int) []int {
	other := slices.Clone(g)
	for i := range other {
		other[i] = -other[i]
	}
	return other
}

func TestGamblesHaveAmountsForWorlds(t *testing.T) {
	if impl.MaxAmount != 1000 {
		t.Fatalf("MaxAmount = %d", impl.MaxAmount)
	}
	eachGamble(func(g []int) {
		if !isGamble(g) || !impl.GambleOk(g) {
			t.Errorf("GambleOk(%v) = false", g)
		}
	})
	for _, g := range badGambles() {
		if isGamble(g) || impl.GambleOk(g) {
			t.Errorf("GambleOk(%v) = true", g)
		}
	}
	for worlds := range 9 {
		for amount := -1010; amount <= 1010; amount++ {
			g := slices.Repeat([]int{amount}, worlds)
			if got := impl.GambleOk(g); got != isGamble(g) {
				t.Errorf("GambleOk(%v) = %t", g, got)
			}
		}
	}
}

func TestPromise6TheOtherSideOfAGambleIsOne(t *testing.T) {
	if !impl.GambleOk([]int{0}) {
		t.Error("nothing in one world is no gamble")
	}
	for _, bound := range []int{-1000, 1000} {
		for worlds := 1; worlds <= 4; worlds++ {
			if !impl.GambleOk(slices.Repeat([]int{bound}, worlds)) {
				t.Errorf("%d in each of %d worlds is no gamble", bound, worlds)
			}
		}
	}
	rows := append(edgeGambles(), badGambles()...)
	for length := range 6 {
		rows = append(rows, rowsOf(length, []int{-1001, -1000, 1000, 1001})...)
	}
	for _, row := range rows {
		if slices.Contains(row, math.MinInt) {
			continue // the least integer has no other sign
		}
		if impl.GambleOk(row) != impl.GambleOk(otherSigns(row)) {
			t.Errorf("only one of %v and its other side is a gamble", row)
		}
	}
	for _, row := range [][]int{{math.MinInt}, {0, math.MinInt}, {math.MinInt, 0, 0, 0}, nil, {}, {0, 0, 0, 0, 0}, {1001}, {-1001}} {
		if impl.GambleOk(row) {
			t.Errorf("GambleOk(%v) = true", row)
		}
	}
}

func TestSumsGoWorldByWorld(t *testing.T) {
	eachTwoGambles(func(a []int, b []int) {
		var want []int
		if len(a) == len(b) {
			for world := range a {
				want = append(want, a[world]+b[world])
			}
		}
		sum, ok := impl.SumGamble(a, b)
		if ok != isGamble(want) {
			t.Fatalf("SumGamble(%v, %v) = %v, %t", a, b, sum, ok)
		}
		if ok && !slices.Equal(sum, want) || !ok && len(sum) != 0 {
			t.Fatalf("SumGamble(%v, %v) = %v, %t", a, b, sum, ok)
		}
	})
}

func TestSumsAtTheBounds(t *testing.T) {
	for _, c := range []struct {
		a, b, want []int
	}{
		{[]int{0}, []int{0}, []int{0}},
		{[]int{1000}, []int{-1000}, []int{0}},
		{[]int{999}, []int{1}, []int{1000}},
		{[]int{1000}, []int{1}, nil},
		{[]int{500}, []int{501}, nil},
		{[]int{-999}, []int{-1}, []int{-1000}},
		{[]int{-1000}, []int{-1}, nil},
		{[]int{1000}, []int{1000}, nil},
		{[]int{-1000}, []int{-1000}, nil},
		{[]int{0, 0, 0, 0}, []int{0, 0, 0, 0}, []int{0, 0, 0, 0}},
		{[]int{1000, -1000, 0, 3}, []int{0, 0, 0, 0}, []int{1000, -1000, 0, 3}},
		{[]int{1, 2, 3, 999}, []int{4, 5, 6, 1}, []int{5, 7, 9, 1000}},
		{[]int{1, 2, 3, 999}, []int{4, 5, 6, 2}, nil},
		{[]int{-999, 2, 3, 4}, []int{-2, 5, 6, 7}, nil},
		{[]int{1}, []int{1, 2}, nil},
		{[]int{1, 2}, []int{1}, nil},
		{[]int{0, 0, 0}, []int{0, 0, 0, 0}, nil},
	} {
		sum, ok := impl.SumGamble(c.a, c.b)
		if ok != (c.want != nil) || !slices.Equal(sum, c.want) {
			t.Errorf("SumGamble(%v, %v) = %v, %t", c.a, c.b, sum, ok)
		}
	}
}

func TestSumsOfOthersAreNone(t *testing.T) {
	for _, bad := range badGambles() {
		rows := append(slices.Clone(rowsOf(1, edgeAmounts)), bad, otherSigns(bad), slices.Repeat([]int{0}, len(bad)), slices.Repeat([]int{-1}, len(bad)))
		for _, row := range rows {
			if sum, ok := impl.SumGamble(bad, row); ok || len(sum) != 0 {
				t.Errorf("SumGamble(%v, %v) = %v, %t", bad, row, sum, ok)
			}
			if sum, ok := impl.SumGamble(row, bad); ok || len(sum) != 0 {
				t.Errorf("SumGamble(%v, %v) = %v, %t", row, bad, sum, ok)
			}
		}
	}
	// Sums that would be gambles, of rows that are none.
	for _, pair := range [][2][]int{
		{{1001}, {-1}}, {{-1001}, {1}}, {{-1}, {1001}}, {{1}, {-1001}}, {{1001}, {-1001}}, {{2000, 0}, {-1000, 0}},
		{{math.MaxInt}, {math.MinInt}}, {{math.MinInt}, {math.MaxInt}}, {{math.MinInt}, {math.MinInt}}, {{0, math.MaxInt}, {0, -math.MaxInt}},
		{nil, nil}, {{}, {}}, {nil, {0}}, {{0}, nil}, {make([]int, 5), make([]int, 5)},
	} {
		if sum, ok := impl.SumGamble(pair[0], pair[1]); ok || len(sum) != 0 {
			t.Errorf("SumGamble(%v, %v) = %v, %t", pair[0], pair[1], sum, ok)
		}
	}
}

func TestPromise7BothTogetherBringWhatBothBring(t *testing.T) {
	sums := 0
	eachTwoGambles(func(a []int, b []int) {
		sum, ok := impl.SumGamble(a, b)
		turned, turnedOk := impl.SumGamble(b, a)
		if ok != turnedOk || !slices.Equal(sum, turned) {
			t.Fatalf("SumGamble(%v, %v) = %v, %t, but exchanged %v, %t", a, b, sum, ok, turned, turnedOk)
		}
		if !ok {
			return
		}
		sums++
		worstA, _ := impl.WorstOf(a)
		worstB, _ := impl.WorstOf(b)
		if worst, ok := impl.WorstOf(sum); !ok || worst < worstA+worstB {
			t.Fatalf("%v and %v: the worst is %d, %t", a, b, worst, ok)
		}
		bestA, _ := impl.BestOf(a)
		bestB, _ := impl.BestOf(b)
		if best, ok := impl.BestOf(sum); !ok || best > bestA+bestB {
			t.Fatalf("%v and %v: the best is %d, %t", a, b, best, ok)
		}
	})
	if sums == 0 {
		t.Error("no sum is a gamble")
	}
	for _, pair := range [][2][]int{{{1}, {1, 1}}, {{1, 1}, {1}}, {nil, {1}}, {{1}, nil}, {{1000}, {1}}, {{1001}, {-1}}, {{math.MaxInt}, {math.MinInt}}} {
		if sum, ok := impl.SumGamble(pair[0], pair[1]); ok || len(sum) != 0 {
			t.Errorf("SumGamble(%v, %v) = %v, %t", pair[0], pair[1], sum, ok)
		}
	}
}

// someTimes has all times that are tried with each gamble: the bounds, around nothing, and such that products are just in or just out of the bounds.
var someTimes = []int{-1000, -999, -501, -500, -334, -333, -3, -2, -1, 0, 1, 2, 3, 333, 334, 500, 501, 999, 1000}

func TestTimesGoWorldByWorld(t *testing.T) {
	eachGamble(func(g []int) {
		for _, times := range someTimes {
			want := make([]int, len(g))
			for world := range g {
				want[world] = g[world] * times
			}
			product, ok := impl.TimesGamble(g, times)
			if ok != isGamble(want) {
				t.Fatalf("TimesGamble(%v, %d) = %v, %t", g, times, product, ok)
			}
			if ok && !slices.Equal(product, want) || !ok && len(product) != 0 {
				t.Fatalf("TimesGamble(%v, %d) = %v, %t", g, times, product, ok)
			}
		}
	})
}

func TestTimesAtTheBounds(t *testing.T) {
	for _, c := range []struct {
		g     []int
		times int
		want  []int
	}{
		{[]int{1}, 1000, []int{1000}},
		{[]int{1}, -1000, []int{-1000}},
		{[]int{-1}, 1000, []int{-1000}},
		{[]int{-1}, -1000, []int{1000}},
		{[]int{2}, 1000, nil},
		{[]int{1, 2}, -1000, nil},
		{[]int{2}, 500, []int{1000}},
		{[]int{2}, 501, nil},
		{[]int{3, 1}, 333, []int{999, 333}},
		{[]int{3, 1}, 334, nil},
		{[]int{1, 0, -1, 0}, 1000, []int{1000, 0, -1000, 0}},
		{[]int{1000}, 1, []int{1000}},
		{[]int{1000}, -1, []int{-1000}},
		{[]int{-1000}, -1, []int{1000}},
		{[]int{1000}, 2, nil},
		{[]int{-1000}, 2, nil},
		{[]int{1000, -1000, 1000, -1000}, 0, []int{0, 0, 0, 0}},
		{[]int{0, 0, 0, 0}, 1000, []int{0, 0, 0, 0}},
		{[]int{0}, -1000, []int{0}},
		{[]int{0}, 1001, nil},
		{[]int{0}, -1001, nil},
		{[]int{0, 0}, math.MaxInt, nil},
		{[]int{0, 0}, math.MinInt, nil},
		{[]int{2}, math.MinInt, nil},
		{[]int{4, 4}, 1 << 62, nil},
	} {
		product, ok := impl.TimesGamble(c.g, c.times)
		if ok != (c.want != nil) || !slices.Equal(product, c.want) {
			t.Errorf("TimesGamble(%v, %d) = %v, %t", c.g, c.times, product, ok)
		}
	}
}

func TestTimesOfOthersAreNone(t *testing.T) {
	for _, bad := range badGambles() {
		for _, times := range append(slices.Clone(someTimes), badAmounts...) {
			if product, ok := impl.TimesGamble(bad, times); ok || len(product) != 0 {
				t.Errorf("TimesGamble(%v, %d) = %v, %t", bad, times, product, ok)
			}
		}
	}
	eachGamble(func(g []int) {
		for _, times := range badAmounts {
			if product, ok := impl.TimesGamble(g, times); ok || len(product) != 0 {
				t.Errorf("TimesGamble(%v, %d) = %v, %t", g, times, product, ok)
			}
		}
	})
}

func TestPromise8TheOtherSideBringsTheOtherSign(t *testing.T) {
	eachGamble(func(g []int) {
		if once, ok := impl.TimesGamble(g, 1); !ok || !slices.Equal(once, g) {
			t.Errorf("%v once is %v, %t", g, once, ok)
		}
		if never, ok := impl.TimesGamble(g, 0); !ok || !slices.Equal(never, make([]int, len(g))) {
			t.Errorf("%v no times is %v, %t", g, never, ok)
		}
		other, ok := impl.TimesGamble(g, -1)
		if !ok || !slices.Equal(other, otherSigns(g)) {
			t.Errorf("the other side of %v is %v, %t", g, other, ok)
		}
		worst, worstOk := impl.WorstOf(other)
		best, bestOk := impl.BestOf(g)
		if !worstOk || !bestOk || worst != -best {
			t.Errorf("the worst of the other side of %v is %d, but the best of it is %d", g, worst, best)
		}
	})
	for _, bad := range badGambles() {
		for _, times := range []int{-1, 0, 1} {
			if product, ok := impl.TimesGamble(bad, times); ok || len(product) != 0 {
				t.Errorf("TimesGamble(%v, %d) = %v, %t", bad, times, product, ok)
			}
		}
	}
}

// checkExtreme tests that a number is one of the amounts of a gamble, and that none is on the side of it that a function tells.
func checkExtreme(t *testing.T, g []int, extreme int, ok bool, beyond func(amount int) bool) {
	t.Helper()
	if !ok || !slices.Contains(g, extreme) || slices.ContainsFunc(g, beyond) {
		t.Errorf("%v: %d, %t", g, extreme, ok)
	}
}

func TestPromise9TheWorstIsOneOfTheAmounts(t *testing.T) {
	higher := 0
	eachGamble(func(g []int) {
		worst, ok := impl.WorstOf(g)
		checkExtreme(t, g, worst, ok, func(amount int) bool { return amount < worst })
		more, ok := impl.SumGamble(g, slices.Repeat([]int{1}, len(g)))
		if !ok {
			return
		}
		higher++
		if got, ok := impl.WorstOf(more); !ok || got != worst+1 {
			t.Errorf("the worst of %v is %d, that of one more each is %d, %t", g, worst, got, ok)
		}
	})
	if higher == 0 {
		t.Error("no gamble has one more each")
	}
	for _, bad := range badGambles() {
		if worst, ok := impl.WorstOf(bad); ok || worst != 0 {
			t.Errorf("WorstOf(%v) = %d, %t", bad, worst, ok)
		}
	}
}

func TestPromise10TheBestOfTheOtherSideIsTheWorst(t *testing.T) {
	eachGamble(func(g []int) {
		best, ok := impl.BestOf(g)
		checkExtreme(t, g, best, ok, func(amount int) bool { return amount > best })
		other, otherOk := impl.TimesGamble(g, -1)
		otherBest, bestOk := impl.BestOf(other)
		worst, worstOk := impl.WorstOf(g)
		if !otherOk || !bestOk || !worstOk || otherBest != -worst {
			t.Errorf("the best of the other side of %v is %d, but the worst of it is %d", g, otherBest, worst)
		}
	})
	for _, bad := range badGambles() {
		if best, ok := impl.BestOf(bad); ok || best != 0 {
			t.Errorf("BestOf(%v) = %d, %t", bad, best, ok)
		}
	}
}

func TestWorstAndBestAtEachPlace(t *testing.T) {
	for worlds := 1; worlds <= 4; worlds++ {
		for at := range worlds {
			for _, amount := range []int{-1000, 1000} {
				for _, others := range []int{-1000, -999, -1, 0, 1, 999, 1000} {
					g := slices.Repeat([]int{others}, worlds)
					g[at] = amount
					if worst, ok := impl.WorstOf(g); !ok || worst != slices.Min(g) {
						t.Errorf("WorstOf(%v) = %d, %t", g, worst, ok)
					}
					if best, ok := impl.BestOf(g); !ok || best != slices.Max(g) {
						t.Errorf("BestOf(%v) = %d, %t", g, best, ok)
					}
				}
			}
		}
	}
}

// noWorse tells by the differences, world by world, what BetterOk has to report for gambles.
func noWorse(a []int, b []int) bool {
	for world := range b {
		if len(a) != len(b) || a[world]-b[world] < 0 {
			return false
		}
	}
	return true
}

func TestBetterGoesByWorlds(t *testing.T) {
	eachTwoGambles(func(a []int, b []int) {
		if got := impl.BetterOk(a, b); got != noWorse(a, b) {
			t.Errorf("BetterOk(%v, %v) = %t", a, b, got)
		}
	})
	for _, a := range rowsOf(4, []int{-1, 0, 1}) {
		for _, b := range rowsOf(4, []int{-1, 0, 1}) {
			if got := impl.BetterOk(a, b); got != noWorse(a, b) {
				t.Errorf("BetterOk(%v, %v) = %t", a, b, got)
			}
		}
	}
}

func TestPromise11BetterIsAnOrder(t *testing.T) {
	eachGamble(func(g []int) {
		if !impl.BetterOk(g, g) || !impl.BetterOk(g, slices.Clone(g)) {
			t.Errorf("%v is not as good as itself", g)
		}
	})
	draw := drawer(11)
	var all [][]int
	for worlds := 1; worlds <= 4; worlds++ {
		all = append(all, rowsOf(worlds, []int{-1, 0, 1})...)
	}
	chains := 0
	for _, a := range all {
		for _, b := range all {
			better := impl.BetterOk(a, b)
			if better && impl.BetterOk(b, a) && !slices.Equal(a, b) {
				t.Errorf("%v and %v are each as good as the other", a, b)
			}
			for range 6 {
				c := drawGamble(draw, len(b), 2)
				if better && impl.BetterOk(b, c) {
					chains++
					if !impl.BetterOk(a, c) {
						t.Errorf("%v, %v and %v: the first is not as good as the third", a, b, c)
					}
				}
			}
		}
	}
	if chains == 0 {
		t.Error("no three gambles in order")
	}
	for _, bad := range badGambles() {
		for _, row := range [][]int{bad, slices.Repeat([]int{1000}, len(bad)), slices.Repeat([]int{-1000}, len(bad)), {0}, {1000}, nil} {
			if impl.BetterOk(bad, row) || impl.BetterOk(row, bad) {
				t.Errorf("%v, which is no gamble, is held against %v", bad, row)
			}
		}
	}
	if impl.BetterOk([]int{1}, []int{0, 0}) || impl.BetterOk([]int{1, 1}, []int{0}) || impl.BetterOk([]int{9, 9, 9, 9}, []int{0, 0, 0}) {
		t.Error("gambles of different numbers of worlds are held against each other")
	}
}

func TestPromise12WhatSurelyLosesIsWorseThanNothing(t *testing.T) {
	list := append(edgeGambles(), drawnGambles()...)
	for worlds := 1; worlds <= 4; worlds++ {
		list = append(list, rowsOf(worlds, []int{-2, -1, 0})...)
	}
	for _, g := range list {
		loses := impl.LosesOk(g)
		if want := slices.Max(g) < 0; loses != want {
			t.Errorf("LosesOk(%v) = %t", g, loses)
		}
		if better := impl.BetterOk(slices.Repeat([]int{-1}, len(g)), g); loses != better {
			t.Errorf("%v surely loses: %t, but -1 in each world is as good: %t", g, loses, better)
		}
		if other, ok := impl.TimesGamble(g, -1); !ok || loses && impl.LosesOk(other) {
			t.Errorf("%v and its other side %v both surely lose", g, other)
		}
	}
	for worlds := 1; worlds <= 4; worlds++ {
		if impl.LosesOk(make([]int, worlds)) {
			t.Errorf("nothing in each of %d worlds surely loses", worlds)
		}
	}
	for _, bad := range badGambles() {
		if impl.LosesOk(bad) {
			t.Errorf("%v, which is no gamble, surely loses", bad)
		}
	}
}

// checkNewMemory tests what checkNewItems does, for results of numbers.
func checkNewMemory(t *testing.T, room []int, worlds int, call func(row []int) []int) {
	t.Helper()
	checkNewItems(t, room, worlds, 777, call)
}

// checkNewItems tests that a function reads a row without writing to it or to the room behind it, and that its results share memory neither with that room nor with each other. The results are written over with another item.
func checkNewItems[R comparable, T comparable](t *testing.T, room []R, length int, other T, call func(row []R) []T) {
	t.Helper()
	before := slices.Clone(room)
	first := call(room[:length])
	second := call(room[:length])
	want := slices.Clone(second)
	if len(want) == 0 || !slices.Equal(first, want) {
		t.Fatalf("results differ: %v %v", first, second)
	}
	for i := range first[:cap(first)] {
		first[:cap(first)][i] = other
	}
	if !slices.Equal(room, before) || !slices.Equal(second, want) {
		t.Fatalf("memory is shared: %v %v", room, second)
	}
	for i := range second[:cap(second)] {
		second[:cap(second)][i] = other
	}
	if third := call(room[:length]); !slices.Equal(room, before) || !slices.Equal(third, want) {
		t.Fatalf("a result was kept: %v %v", room, third)
	}
}

func TestGamblesAreNewMemory(t *testing.T) {
	for worlds := 1; worlds <= 4; worlds++ {
		nothing := make([]int, worlds)
		for _, times := range []int{-2, -1, 0, 1, 3} {
			checkNewMemory(t, []int{3, -2, 5, 0, 9, 9, 9, 9}, worlds, func(row []int) []int {
				product, _ := impl.TimesGamble(row, times)
				return product
			})
		}
		checkNewMemory(t, []int{3, -2, 5, 0, 9, 9, 9, 9}, worlds, func(row []int) []int {
			sum, _ := impl.SumGamble(row, nothing)
			return sum
		})
		checkNewMemory(t, []int{3, -2, 5, 0, 9, 9, 9, 9}, worlds, func(row []int) []int {
			sum, _ := impl.SumGamble(nothing, row)
			return sum
		})
		checkNewMemory(t, []int{3, -2, 5, 0, 9, 9, 9, 9}, worlds, func(row []int) []int {
			sum, _ := impl.SumGamble(row, row)
			return sum
		})
		checkNewMemory(t, []int{0, 0, 0, 0, 0, 0, 0, 0}, worlds, func(row []int) []int {
			sum, _ := impl.SumGamble(row, row)
			return sum
		})
		if slices.ContainsFunc(nothing, func(amount int) bool { return amount != 0 }) {
			t.Fatalf("an argument was written to: %v", nothing)
		}
	}
}

// TestGamblesAreOnlyRead: no function writes to a gamble, also not for calls that have no result.
func TestGamblesAreOnlyRead(t *testing.T) {
	for _, worlds := range []int{1, 2, 3, 4, 5} {
		for _, amounts := range [][]int{{3, -2, 5, 0, 1, 9, 9}, {1000, -1000, 999, 1, 1, 9, 9}, {-1, -2, -3, -4, -5, 9, 9}, {1001, 2, 3, 4, 5, 9, 9}} {
			room := slices.Clone(amounts)
			other := slices.Clone(amounts)
			a, b := room[:worlds], other[:worlds]
			impl.GambleOk(a)
			impl.SumGamble(a, b)
			impl.TimesGamble(a, -3)
			impl.TimesGamble(a, 1)
			impl.WorstOf(a)
			impl.BestOf(a)
			impl.BetterOk(a, b)
			impl.LosesOk(a)
			if !slices.Equal(room, amounts) || !slices.Equal(other, amounts) {
				t.Errorf("%v was written to: %v %v", amounts, room, other)
			}
		}
	}
}
