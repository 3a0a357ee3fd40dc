package tests

import (
	"math"
	"slices"
	"testing"

	"loop.example/fairbooks/impl"
)

// product returns the sum of the products of two rows, place by place.
func product(a []int, b []int) int {
	sum := 0
	for i, number := range a {
		sum += number * b[i]
	}
	return sum
}

// scored tells without a square of a difference what ScoreOf has to return: with the square of Grains less some grains written out, only the product of both goes by the world.
func scored(m []int, world int) int {
	return product(m, m) - 72*m[world] + 1296
}

// expectedOf tells likewise what ExpectedScore has to return: all grains of the true measure together are Grains.
func expectedOf(truth []int, report []int) int {
	return 36*product(report, report) - 72*product(truth, report) + 36*1296
}

// apart tells likewise what FarApart has to return.
func apart(a []int, b []int) int {
	return product(a, a) + product(b, b) - 2*product(a, b)
}

// nearest tells by sorting what BestReport has to return, and how many reports are as near as the best one.
func nearest(truth []int, reports [][]int) (int, int) {
	places := make([]int, len(reports))
	for at := range places {
		places[at] = at
	}
	slices.SortStableFunc(places, func(a int, b int) int {
		return apart(truth, reports[a]) - apart(truth, reports[b])
	})
	ties := 0
	for _, report := range reports {
		if apart(truth, report) == apart(truth, reports[places[0]]) {
			ties++
		}
	}
	return places[0], ties
}

// totalOf tells what TotalScore has to return by how often each world turned out, and not by the order.
func totalOf(m []int, seen []int) int {
	total := 0
	for world := range m {
		total += len(placesIn(seen, world)) * scored(m, world)
	}
	return total
}

// placesIn returns the places of a number in a row.
func placesIn(row []int, number int) []int {
	var places []int
	for at, other := range row {
		if other == number {
			places = append(places, at)
		}
	}
	return places
}

// sharesSeen tells by trying one number of grains after the other, and not by a division, what SeenMeasure has to return; nil if a share is no whole number.
func sharesSeen(worlds int, seen []int) []int {
	var shares []int
	for world := range worlds {
		for grains := 0; grains <= 36; grains++ {
			if grains*len(seen) == 36*len(placesIn(seen, world)) {
				shares = append(shares, grains)
			}
		}
	}
	if len(shares) < worlds {
		return nil
	}
	return shares
}

// allOnOne returns the measure that has all grains on one world.
func allOnOne(worlds int, world int) []int {
	m := make([]int, worlds)
	m[world] = 36
	return m
}

// turnedRow returns a row from its last item to its first one.
func turnedRow(row []int) []int {
	turned := slices.Clone(row)
	slices.Reverse(turned)
	return turned
}

// eachMeasure calls a function with all measures of 1..4 worlds.
func eachMeasure(do func(m []int)) {
	for worlds := 1; worlds <= 4; worlds++ {
		for _, m := range allMeasures[worlds] {
			do(m)
		}
	}
}

// eachTwoMeasures calls a function with pairs of measures of as many worlds: all of one and of two worlds, and of more worlds each measure with itself, with itself from the last world to the first one, with those that have all grains on one world, and with drawn ones, in both orders.
func eachTwoMeasures(do func(a []int, b []int)) {
	draw := drawer(68)
	eachMeasure(func(a []int) {
		worlds := len(a)
		if worlds <= 2 {
			for _, b := range allMeasures[worlds] {
				do(a, b)
			}
			return
		}
		do(a, a)
		do(a, turnedRow(a))
		for world := range worlds {
			do(a, allOnOne(worlds, world))
			do(allOnOne(worlds, world), a)
		}
		for range 4 {
			b := drawMeasure(draw, worlds)
			do(a, b)
			do(b, a)
		}
	})
}

// eachNoTwoMeasures calls a function with pairs of rows that are no two measures of as many worlds: by one of them, by both, or by their numbers of worlds.
func eachNoTwoMeasures(do func(a []int, b []int)) {
	for _, bad := range badMeasures() {
		do(bad, bad)
		do(bad, slices.Clone(bad))
		for worlds := 1; worlds <= 4; worlds++ {
			for _, m := range [][]int{allOnOne(worlds, 0), allOnOne(worlds, worlds-1), allMeasures[worlds][waysToLay[worlds]/2]} {
				do(bad, m)
				do(m, bad)
			}
		}
	}
	for _, a := range givenMeasures {
		for _, b := range givenMeasures {
			if len(a) != len(b) {
				do(a, b)
			}
		}
	}
}

func TestBoundsOfScores(t *testing.T) {
	if impl.MaxReports != 6 || impl.MaxSeen != 12 {
		t.Fatalf("MaxReports = %d, MaxSeen = %d", impl.MaxReports, impl.MaxSeen)
	}
}

func TestSomeScores(t *testing.T) {
	for _, c := range []struct {
		m           []int
		world, want int
	}{
		{[]int{36}, 0, 0}, // one world
		{[]int{36}, 1, -1},
		{[]int{36}, -1, -1},
		{[]int{36, 0}, 0, 0}, // sure and right
		{[]int{36, 0}, 1, 2592},
		{[]int{0, 36}, 0, 2592}, // sure and wrong
		{[]int{0, 36}, 1, 0},
		{[]int{18, 18}, 0, 648},
		{[]int{18, 18}, 1, 648},
		{[]int{35, 1}, 0, 2},
		{[]int{35, 1}, 1, 2450},
		{[]int{18, 18}, 2, -1},
		{[]int{12, 6, 18}, 0, 576 + 36 + 324},
		{[]int{12, 6, 18}, 1, 144 + 900 + 324},
		{[]int{12, 6, 18}, 2, 144 + 36 + 324},
		{[]int{12, 6, 18}, 3, -1},
		{[]int{0, 18, 18}, 0, 1944}, // no grains on the world
		{[]int{0, 36, 0}, 2, 2592},
		{[]int{9, 9, 9, 9}, 0, 972}, // MaxWorlds worlds
		{[]int{9, 9, 9, 9}, 3, 972},
		{[]int{1, 2, 4, 29}, 0, 2086},
		{[]int{1, 2, 4, 29}, 1, 2014},
		{[]int{1, 2, 4, 29}, 2, 1870},
		{[]int{1, 2, 4, 29}, 3, 70},
		{[]int{0, 0, 0, 36}, 3, 0},
		{[]int{0, 0, 0, 36}, 0, 2592},
		{[]int{0, 0, 0, 36}, 4, -1},
		{[]int{9, 9, 9, 9}, math.MinInt, -1},
		{[]int{9, 9, 9, 9}, math.MaxInt, -1},
		{[]int{36, 0, 0, 0, 0}, 0, -1}, // no measures: by the length, by one grain, by a negative one
		{[]int{35, 0}, 0, -1},
		{[]int{36, 1}, 0, -1},
		{[]int{37, -1}, 0, -1},
		{[]int{}, 0, -1},
		{nil, 0, -1},
		{[]int{math.MaxInt, math.MaxInt, 38}, 2, -1},
	} {
		if got := impl.ScoreOf(c.m, c.world); got != c.want {
			t.Errorf("ScoreOf(%v, %d) = %d, not %d", c.m, c.world, got, c.want)
		}
	}
}

func TestPromise67JustWhatIsSureAndRightScoresNothing(t *testing.T) {
	nothing, most := 0, 0
	eachMeasure(func(m []int) {
		for world, grains := range m {
			got := impl.ScoreOf(m, world)
			if got != scored(m, world) || got < 0 || got > 2*36*36 {
				t.Fatalf("ScoreOf(%v, %d) = %d, not %d", m, world, got, scored(m, world))
			}
			if (got == 0) != (grains == 36) {
				t.Fatalf("ScoreOf(%v, %d) = %d", m, world, got)
			}
			switch got {
			case 0:
				nothing++
			case 2 * 36 * 36:
				most++
			}
		}
	})
	// Each of the worlds is the one with all grains once; and then each other one of as many scores the most.
	if nothing != 1+2+3+4 || most != 0+2+6+12 {
		t.Errorf("%d score nothing, and %d the most", nothing, most)
	}
}

func TestOthersAreNotScored(t *testing.T) {
	for _, bad := range badMeasures() {
		for world := range 6 {
			if got := impl.ScoreOf(bad, world); got != -1 {
				t.Fatalf("ScoreOf(%v, %d) = %d", bad, world, got)
			}
		}
		for _, world := range badWorlds {
			if got := impl.ScoreOf(bad, world); got != -1 {
				t.Fatalf("ScoreOf(%v, %d) = %d", bad, world, got)
			}
		}
	}
	eachMeasure(func(m []int) {
		for _, world := range append([]int{len(m), len(m) + 1, -len(m)}, badWorlds...) {
			if got := impl.ScoreOf(m, world); got != -1 {
				t.Fatalf("ScoreOf(%v, %d) = %d", m, world, got)
			}
		}
	})
}

func TestSomeExpectedScores(t *testing.T) {
	for _, c := range []struct {
		truth, report  []int
		expected, away int
	}{
		{[]int{36}, []int{36}, 0, 0}, // one world
		{[]int{36, 0}, []int{36, 0}, 0, 0},
		{[]int{36, 0}, []int{0, 36}, 93312, 2592},
		{[]int{0, 36}, []int{36, 0}, 93312, 2592},
		{[]int{18, 18}, []int{36, 0}, 46656, 648},
		{[]int{18, 18}, []int{18, 18}, 23328, 0},
		{[]int{36, 0}, []int{18, 18}, 23328, 648}, // a sure measure, and one that is not
		{[]int{12, 24}, []int{18, 18}, 23328, 72},
		{[]int{12, 24}, []int{12, 24}, 20736, 0},
		{[]int{12, 24}, []int{6, 30}, 12*1800 + 24*72, 72}, // as far as the even one
		{[]int{12, 24}, []int{36, 0}, 62208, 1152},
		{[]int{12, 6, 18}, []int{12, 6, 18}, 12*936 + 6*1368 + 18*504, 0},
		{[]int{12, 6, 18}, []int{18, 6, 12}, 12*504 + 6*1368 + 18*936, 72},
		{[]int{0, 0, 36}, []int{12, 6, 18}, 36 * 504, 504}, // no grains on some worlds
		{[]int{12, 6, 18}, []int{0, 0, 36}, 18 * 2592, 504},
		{[]int{9, 9, 9, 9}, []int{9, 9, 9, 9}, 36 * 972, 0}, // MaxWorlds worlds
		{[]int{9, 9, 9, 9}, []int{36, 0, 0, 0}, 27 * 2592, 972},
		{[]int{1, 2, 4, 29}, []int{9, 9, 9, 9}, 36 * 972, 538},
		{[]int{9, 9, 9, 9}, []int{1, 2, 4, 29}, 9 * (2086 + 2014 + 1870 + 70), 538},
		{[]int{36}, []int{36, 0}, -1, -1}, // of different numbers of worlds
		{[]int{36, 0}, []int{36}, -1, -1},
		{[]int{36, 0, 0}, []int{36, 0, 0, 0}, -1, -1},
		{[]int{36, 0, 0, 0}, []int{36, 0, 0, 0, 0}, -1, -1},
		{[]int{36, 0, 0, 0, 0}, []int{36, 0, 0, 0, 0}, -1, -1},
		{[]int{35, 0}, []int{36, 0}, -1, -1}, // no measures
		{[]int{36, 0}, []int{36, 1}, -1, -1},
		{[]int{37, -1}, []int{37, -1}, -1, -1},
		{[]int{}, []int{}, -1, -1},
		{nil, nil, -1, -1},
		{nil, []int{36}, -1, -1},
		{[]int{36}, nil, -1, -1},
		{[]int{math.MaxInt, math.MaxInt, 38}, []int{12, 6, 18}, -1, -1},
		{[]int{12, 6, 18}, []int{math.MinInt, math.MinInt, 36}, -1, -1},
	} {
		if got := impl.ExpectedScore(c.truth, c.report); got != c.expected {
			t.Errorf("ExpectedScore(%v, %v) = %d, not %d", c.truth, c.report, got, c.expected)
		}
		if got := impl.FarApart(c.truth, c.report); got != c.away {
			t.Errorf("FarApart(%v, %v) = %d, not %d", c.truth, c.report, got, c.away)
		}
	}
}

func TestPromise68NobodyGainsByTellingAnotherMeasure(t *testing.T) {
	eachTwoMeasures(func(truth []int, report []int) {
		got, own := impl.ExpectedScore(truth, report), impl.ExpectedScore(truth, truth)
		if got != expectedOf(truth, report) || got != own+impl.Grains*impl.FarApart(truth, report) {
			t.Fatalf("ExpectedScore(%v, %v) = %d, and of the measure itself %d", truth, report, got, own)
		}
		if got < own || (got == own) != slices.Equal(truth, report) {
			t.Fatalf("ExpectedScore(%v, %v) = %d, and of the measure itself %d", truth, report, got, own)
		}
		sum := 0
		for world, grains := range truth {
			sum += grains * impl.ScoreOf(report, world)
		}
		if got != sum {
			t.Fatalf("ExpectedScore(%v, %v) = %d, but by the scores of the worlds %d", truth, report, got, sum)
		}
	})
}

func TestPromise69ApartIsNothingJustForTheSame(t *testing.T) {
	same, mixed := 0, 0
	eachTwoMeasures(func(a []int, b []int) {
		got := impl.FarApart(a, b)
		if got != apart(a, b) || got != impl.FarApart(b, a) {
			t.Fatalf("FarApart(%v, %v) = %d, and for both exchanged %d", a, b, got, impl.FarApart(b, a))
		}
		if got < 0 || (got == 0) != slices.Equal(a, b) {
			t.Fatalf("FarApart(%v, %v) = %d", a, b, got)
		}
		if got == 0 {
			same++
		}
		m, ok := impl.MixedMeasure(a, b)
		if !ok {
			return
		}
		if got != 4*impl.FarApart(a, m) || got != 4*impl.FarApart(m, b) {
			t.Fatalf("FarApart(%v, %v) = %d, but of the mixed one they are %d and %d", a, b, got, impl.FarApart(a, m), impl.FarApart(m, b))
		}
		if got > 0 {
			mixed++
		}
	})
	if same < 1000 || mixed < 1000 {
		t.Errorf("%d are the same, and %d others are mixed", same, mixed)
	}
}

func TestOthersAreNeitherExpectedNorApart(t *testing.T) {
	eachNoTwoMeasures(func(a []int, b []int) {
		if got := impl.ExpectedScore(a, b); got != -1 {
			t.Fatalf("ExpectedScore(%v, %v) = %d", a, b, got)
		}
		if got := impl.FarApart(a, b); got != -1 {
			t.Fatalf("FarApart(%v, %v) = %d", a, b, got)
		}
	})
}

func TestSomeBestReports(t *testing.T) {
	sure := []int{36, 0}
	for _, c := range []struct {
		truth   []int
		reports [][]int
		want    int
	}{
		{[]int{36}, [][]int{{36}}, 0}, // one world: all reports are the measure itself
		{[]int{36}, [][]int{{36}, {36}}, 0},
		{[]int{36}, slices.Repeat([][]int{{36}}, 6), 0},
		{[]int{36}, slices.Repeat([][]int{{36}}, 7), -1},
		{[]int{36}, nil, -1}, // no reports
		{[]int{36}, [][]int{}, -1},
		{[]int{12, 24}, [][]int{{36, 0}}, 0}, // one report, however far
		{[]int{0, 36}, [][]int{{36, 0}}, 0},
		{[]int{12, 24}, [][]int{{36, 0}, {18, 18}, {6, 30}}, 1}, // equally near: the first one
		{[]int{12, 24}, [][]int{{36, 0}, {6, 30}, {18, 18}}, 1},
		{[]int{12, 24}, [][]int{{6, 30}, {18, 18}, {6, 30}}, 0},
		{[]int{12, 24}, [][]int{{18, 18}, {6, 30}, {13, 23}}, 2}, // a nearer one behind such
		{[]int{12, 24}, [][]int{{18, 18}, {6, 30}, {13, 23}, {11, 25}, {13, 23}}, 2},
		{[]int{12, 24}, [][]int{{13, 23}, {12, 24}, {12, 24}}, 1}, // the measure itself
		{[]int{12, 24}, [][]int{{12, 24}, {13, 23}, {12, 24}}, 0},
		{[]int{12, 24}, [][]int{{36, 0}, {0, 36}, {20, 16}, {4, 32}, {11, 25}, {12, 24}}, 5},
		{[]int{12, 24}, [][]int{{36, 0}, {0, 36}, {20, 16}, {4, 32}, {11, 25}, {13, 23}}, 4},
		{[]int{12, 24}, [][]int{{36, 0}, {0, 36}, {20, 16}, {4, 32}, {11, 25}, {13, 23}, {12, 24}}, -1},
		{[]int{12, 12, 12}, [][]int{{0, 0, 36}, {36, 0, 0}, {0, 36, 0}}, 0},
		{[]int{12, 12, 12}, [][]int{{0, 0, 36}, {36, 0, 0}, {12, 6, 18}, {18, 12, 6}}, 2},
		{[]int{9, 9, 9, 9}, [][]int{{36, 0, 0, 0}, {0, 18, 18, 0}, {18, 0, 0, 18}}, 1}, // MaxWorlds worlds
		{[]int{1, 2, 4, 29}, [][]int{{9, 9, 9, 9}, {0, 0, 0, 36}, {4, 2, 1, 29}}, 2},
		{[]int{0, 0, 0, 36}, [][]int{{12, 12, 12, 0}, {36, 0, 0, 0}}, 0}, // all wrong, and one less sure
		{sure, [][]int{sure, sure}, 0},
		{[]int{12, 24}, [][]int{{12, 25}}, -1}, // reports that are no measures, alone and beside others
		{[]int{12, 24}, [][]int{{12, 24}, {12, 23}}, -1},
		{[]int{12, 24}, [][]int{{37, -1}, {12, 24}}, -1},
		{[]int{12, 24}, [][]int{{12, 24}, nil}, -1},
		{[]int{12, 24}, [][]int{{}, {12, 24}}, -1},
		{[]int{12, 24}, [][]int{{12, 24}, {12, 24, 0}}, -1}, // of another number of worlds
		{[]int{12, 24}, [][]int{{36}, {12, 24}}, -1},
		{[]int{12, 24}, [][]int{{12, 24, 0}}, -1},
		{[]int{12, 24, 0}, [][]int{{12, 24}}, -1},
		{[]int{12, 25}, [][]int{{12, 24}}, -1}, // no true measure
		{[]int{12, 25}, [][]int{{12, 25}}, -1},
		{[]int{12, 24, 0, 0, 0}, [][]int{{12, 24, 0, 0, 0}}, -1},
		{nil, [][]int{{36}}, -1},
		{nil, [][]int{nil}, -1},
		{nil, nil, -1},
		{[]int{12, 24, 0}, [][]int{{12, 24, 0}, {math.MaxInt, math.MaxInt, 38}}, -1},
		{[]int{math.MinInt, math.MinInt, 36}, [][]int{{12, 24, 0}}, -1},
	} {
		if got := impl.BestReport(c.truth, c.reports); got != c.want {
			t.Errorf("BestReport(%v, %v) = %d, not %d", c.truth, c.reports, got, c.want)
		}
	}
}

// reportLists returns lists of 1..6 reports for a true measure: drawn ones, ones with a grain of it moved, of which many are as near as others, and drawn ones with the measure itself in one place or in two.
func reportLists(draw func(below int) int, truth []int) [][][]int {
	worlds := len(truth)
	var list [][][]int
	for count := 1; count <= 6; count++ {
		drawn := make([][]int, count)
		for at := range drawn {
			drawn[at] = drawMeasure(draw, worlds)
		}
		near := make([][]int, count)
		for at := range near {
			near[at] = movedGrain(truth, draw(worlds), draw(worlds))
		}
		itself := slices.Clone(drawn)
		itself[draw(count)] = slices.Clone(truth)
		twice := slices.Clone(itself)
		twice[draw(count)] = slices.Clone(truth)
		list = append(list, drawn, near, itself, twice)
	}
	return list
}

// movedGrain returns a measure with one grain of a first world on a second one; as it is if there is none on the first one.
func movedGrain(m []int, from int, to int) []int {
	moved := slices.Clone(m)
	if moved[from] > 0 {
		moved[from]--
		moved[to]++
	}
	return moved
}

// eachReports calls a function with true measures and lists of reports: all lists of up to four out of six measures of two worlds, and out of six of three worlds, of which some are as near to others, and lists of up to six for all measures of 1..3 worlds and for a part of those of four.
func eachReports(do func(truth []int, reports [][]int)) {
	two := [][]int{{18, 18}, {12, 24}, {24, 12}, {36, 0}, {0, 36}, {17, 19}}
	three := [][]int{{12, 6, 18}, {18, 6, 12}, {6, 12, 18}, {12, 12, 12}, {0, 36, 0}, {18, 18, 0}}
	for _, list := range [][][]int{two, three} {
		for count := 1; count <= 4; count++ {
			for _, places := range rowsOf(count, []int{0, 1, 2, 3, 4, 5}) {
				reports := make([][]int, count)
				for at, place := range places {
					reports[at] = list[place]
				}
				for _, truth := range list {
					do(truth, reports)
				}
			}
		}
	}
	draw := drawer(70)
	eachMeasure(func(truth []int) {
		if len(truth) == 4 && draw(4) > 0 {
			return
		}
		for _, reports := range reportLists(draw, truth) {
			do(truth, reports)
		}
	})
}

func TestPromise70TheNearestReportIsTheBestOne(t *testing.T) {
	alone, tied, itself, moved := 0, 0, 0, 0
	eachReports(func(truth []int, reports [][]int) {
		best := impl.BestReport(truth, reports)
		want, ties := nearest(truth, reports)
		if best != want {
			t.Fatalf("BestReport(%v, %v) = %d, not %d", truth, reports, best, want)
		}
		away := impl.FarApart(truth, reports[best])
		least := impl.ExpectedScore(truth, reports[best])
		for at, report := range reports {
			other := impl.FarApart(truth, report)
			if other < away || other == away && at < best || impl.ExpectedScore(truth, report) < least {
				t.Fatalf("BestReport(%v, %v) = %d, but the one at %d is as near, or nearer", truth, reports, best, at)
			}
		}
		if slices.ContainsFunc(reports, func(report []int) bool { return slices.Equal(report, truth) }) {
			if !slices.Equal(reports[best], truth) {
				t.Fatalf("BestReport(%v, %v) = %d, but it is itself one of them", truth, reports, best)
			}
			itself++
		}
		switch {
		case len(reports) == 1:
			alone++
		case ties > 1 && away > 0:
			tied++
		}
		if best > 0 {
			moved++
		}
	})
	if alone < 1000 || tied < 1000 || itself < 1000 || moved < 1000 {
		t.Errorf("%d are alone, %d as near as others, %d the measure itself, and %d not the first one", alone, tied, itself, moved)
	}
}

// TestReportsAreComparedUpToSix: each place of a list can be the best one, and of one report more none is.
func TestReportsAreComparedUpToSix(t *testing.T) {
	for worlds := 2; worlds <= 4; worlds++ {
		truth, far := allMeasures[worlds][waysToLay[worlds]/2], allOnOne(worlds, worlds-1)
		for _, count := range []int{1, 2, 3, 4, 5, 6, 7, 8, 12, 64, 1000} {
			for best := range min(count, 9) {
				reports := slices.Repeat([][]int{far}, count)
				reports[best] = truth
				want := best
				if count > 6 {
					want = -1
				}
				if got := impl.BestReport(truth, reports); got != want {
					t.Fatalf("BestReport(%v, %d reports, itself at %d) = %d", truth, count, best, got)
				}
			}
		}
	}
}

func TestOtherReportsAreNotCompared(t *testing.T) {
	checkNone := func(truth []int, reports [][]int) {
		t.Helper()
		if got := impl.BestReport(truth, reports); got != -1 {
			t.Fatalf("BestReport(%v, %v) = %d", truth, reports, got)
		}
	}
	eachNoTwoMeasures(func(truth []int, report []int) {
		checkNone(truth, [][]int{report})
		checkNone(truth, nil)
		checkNone(truth, [][]int{})
		for count := 2; count <= 7; count++ {
			checkNone(truth, slices.Repeat([][]int{report}, count))
			for at := range count {
				// The others are the true measure itself, or as bad as it.
				reports := slices.Repeat([][]int{truth}, count)
				reports[at] = report
				checkNone(truth, reports)
			}
		}
	})
	eachMeasure(func(m []int) {
		checkNone(m, nil)
		checkNone(m, [][]int{})
		checkNone(m, slices.Repeat([][]int{m}, 7))
	})
}

func TestSomeTotals(t *testing.T) {
	for _, c := range []struct {
		m    []int
		seen []int
		want int
	}{
		{[]int{36}, nil, 0}, // nothing seen
		{[]int{18, 18}, []int{}, 0},
		{[]int{9, 9, 9, 9}, nil, 0},
		{[]int{36}, []int{0}, 0}, // one world
		{[]int{36}, make([]int, 12), 0},
		{[]int{36}, make([]int, 13), -1},
		{[]int{36}, []int{1}, -1},
		{[]int{18, 18}, []int{0}, 648}, // one seen world
		{[]int{18, 18}, []int{0, 1, 1}, 1944},
		{[]int{36, 0}, []int{0, 0, 0}, 0},
		{[]int{36, 0}, []int{0, 1, 0}, 2592},
		{[]int{36, 0}, []int{1, 1}, 5184},
		{[]int{0, 36}, make([]int, 12), 12 * 2592}, // MaxSeen worlds, and one more
		{[]int{0, 36}, make([]int, 13), -1},
		{[]int{12, 6, 18}, []int{0, 1, 2}, 936 + 1368 + 504},
		{[]int{12, 6, 18}, []int{2, 2, 1}, 504 + 504 + 1368},
		{[]int{1, 2, 4, 29}, []int{3, 0, 3, 2, 1, 3}, 70 + 2086 + 70 + 1870 + 2014 + 70},
		{[]int{9, 9, 9, 9}, []int{0, 1, 2, 3, 0, 1, 2, 3, 0, 1, 2, 3}, 12 * 972},
		{[]int{9, 9, 9, 9}, []int{0, 1, 2, 3, 0, 1, 2, 3, 0, 1, 2, 3, 0}, -1},
		{[]int{18, 18}, []int{2}, -1}, // no worlds
		{[]int{18, 18}, []int{-1}, -1},
		{[]int{18, 18}, []int{0, 1, 2}, -1},
		{[]int{18, 18}, []int{2, 0, 1}, -1},
		{[]int{18, 18}, []int{0, -1, 1}, -1},
		{[]int{18, 18}, []int{math.MinInt, 0}, -1},
		{[]int{18, 18}, []int{0, math.MaxInt}, -1},
		{[]int{18, 17}, nil, -1}, // no measures
		{[]int{18, 17}, []int{0}, -1},
		{[]int{37, -1}, []int{0}, -1},
		{[]int{36, 0, 0, 0, 0}, []int{0}, -1},
		{nil, nil, -1},
		{nil, []int{0}, -1},
		{[]int{math.MaxInt, math.MaxInt, 38}, []int{0}, -1},
	} {
		if got := impl.TotalScore(c.m, c.seen); got != c.want {
			t.Errorf("TotalScore(%v, %v) = %d, not %d", c.m, c.seen, got, c.want)
		}
	}
}

// drawSeen draws so many worlds that turned out.
func drawSeen(draw func(below int) int, worlds int, count int) []int {
	seen := make([]int, count)
	for at := range seen {
		seen[at] = draw(worlds)
	}
	return seen
}

// eachSeen calls a function with worlds that turned out: all rows of up to five of them, for one and for two worlds of up to twelve, and drawn ones of six and more.
func eachSeen(do func(worlds int, seen []int)) {
	for worlds := 1; worlds <= 4; worlds++ {
		most := []int{0, 12, 12, 5, 5}[worlds]
		for count := 0; count <= most; count++ {
			for _, seen := range rowsOf(count, []int{0, 1, 2, 3}[:worlds]) {
				do(worlds, seen)
			}
		}
		draw := drawer(uint64(70 + worlds))
		for count := 6; count <= 12; count++ {
			for range 300 {
				do(worlds, drawSeen(draw, worlds, count))
				// With fewer worlds that turn out there are more whole shares.
				do(worlds, drawSeen(draw, 1+draw(worlds), count))
			}
		}
	}
}

func TestPromise71ScoresAreSummedInAnyOrder(t *testing.T) {
	draw := drawer(71)
	eachSeen(func(worlds int, seen []int) {
		for _, m := range [][]int{drawMeasure(draw, worlds), drawMeasure(draw, worlds), allOnOne(worlds, draw(worlds))} {
			got := impl.TotalScore(m, seen)
			if got != totalOf(m, seen) {
				t.Fatalf("TotalScore(%v, %v) = %d, not %d", m, seen, got, totalOf(m, seen))
			}
			if turned := impl.TotalScore(m, turnedRow(seen)); turned != got {
				t.Fatalf("TotalScore(%v, %v) = %d, but from the last world to the first one %d", m, seen, got, turned)
			}
			for cut := range len(seen) + 1 {
				if first, second := impl.TotalScore(m, seen[:cut]), impl.TotalScore(m, seen[cut:]); first < 0 || second < 0 || first+second != got {
					t.Fatalf("TotalScore(%v, %v) = %d, but in parts %d and %d", m, seen, got, first, second)
				}
			}
		}
	})
	// Of each measure alone: nothing seen scores nothing, and one world as ScoreOf says.
	eachMeasure(func(m []int) {
		if got := impl.TotalScore(m, nil); got != 0 {
			t.Fatalf("TotalScore(%v, nil) = %d", m, got)
		}
		for world := range m {
			if got := impl.TotalScore(m, []int{world}); got != impl.ScoreOf(m, world) || got != scored(m, world) {
				t.Fatalf("TotalScore(%v, [%d]) = %d", m, world, got)
			}
		}
	})
}

// eachNoSeen calls a function with rows that are none of at most twelve of so many worlds: by their length, or by a world in any place.
func eachNoSeen(do func(worlds int, seen []int)) {
	for worlds := 1; worlds <= 4; worlds++ {
		for _, count := range []int{13, 14, 24, 36, 64, 1000} {
			for world := range worlds {
				do(worlds, slices.Repeat([]int{world}, count))
			}
		}
		draw := drawer(uint64(80 + worlds))
		do(worlds, drawSeen(draw, worlds, 13))
		for _, bad := range append([]int{worlds, worlds + 1}, badWorlds...) {
			for count := 1; count <= 13; count++ {
				do(worlds, slices.Repeat([]int{bad}, count))
				for at := range count {
					seen := drawSeen(draw, worlds, count)
					seen[at] = bad
					do(worlds, seen)
				}
			}
		}
		do(worlds, []int{math.MinInt, math.MaxInt, 1})
	}
}

func TestOtherTotalsAreNone(t *testing.T) {
	checkNone := func(m []int, seen []int) {
		t.Helper()
		if got := impl.TotalScore(m, seen); got != -1 {
			t.Fatalf("TotalScore(%v, %v) = %d", m, seen, got)
		}
	}
	eachNoSeen(func(worlds int, seen []int) {
		checkNone(allOnOne(worlds, 0), seen)
		checkNone(allMeasures[worlds][waysToLay[worlds]/2], seen)
	})
	for _, bad := range badMeasures() {
		for _, seen := range [][]int{nil, {}, {0}, {1}, {0, 1}, {3, 2, 1, 0}, {4}, {-1}, make([]int, 12), make([]int, 13), {math.MinInt}, {math.MaxInt}} {
			checkNone(bad, seen)
		}
	}
}

func TestMeasuresOfSomeSeenWorlds(t *testing.T) {
	for _, c := range []struct {
		worlds int
		seen   []int
		want   []int
	}{
		{1, []int{0}, []int{36}}, // one world
		{1, make([]int, 5), []int{36}},
		{1, make([]int, 12), []int{36}},
		{1, make([]int, 13), nil},
		{1, nil, nil}, // nothing seen
		{2, []int{}, nil},
		{2, []int{0}, []int{36, 0}}, // one seen world
		{2, []int{1}, []int{0, 36}},
		{4, []int{2}, []int{0, 0, 36, 0}},
		{2, []int{0, 1}, []int{18, 18}},
		{2, []int{1, 0}, []int{18, 18}},
		{2, []int{0, 1, 1}, []int{12, 24}},
		{2, []int{0, 1, 1, 1, 1}, nil}, // fifths
		{2, []int{1, 1, 1, 1, 1}, []int{0, 36}},
		{3, []int{0, 1, 2, 2}, []int{9, 9, 18}},
		{3, []int{2, 0, 2, 1, 2, 0}, []int{12, 6, 18}},
		{3, []int{0, 0, 0, 0, 0, 0, 1}, nil}, // sevenths
		{3, []int{1, 1, 1, 1, 1, 1, 1}, []int{0, 36, 0}},
		{2, []int{0, 1, 1, 1, 1, 1, 1, 1}, nil}, // eighths: four and a half each
		{2, []int{0, 0, 1, 1, 1, 1, 1, 1}, []int{9, 27}},
		{4, []int{0, 0, 1, 1, 2, 2, 2, 3}, nil},
		{4, []int{0, 0, 1, 1, 2, 2, 3, 3}, []int{9, 9, 9, 9}},
		{3, []int{0, 1, 2, 0, 1, 2, 0, 1, 2}, []int{12, 12, 12}},
		{2, []int{0, 1, 1, 1, 1, 1, 1, 1, 1}, []int{4, 32}},
		{2, []int{0, 0, 0, 0, 0, 1, 1, 1, 1, 1}, []int{18, 18}}, // tenths
		{2, []int{0, 0, 0, 0, 1, 1, 1, 1, 1, 1}, nil},
		{4, []int{3, 3, 3, 3, 3, 3, 3, 3, 3, 3, 3}, []int{0, 0, 0, 36}},
		{4, []int{3, 3, 3, 3, 3, 3, 3, 3, 3, 3, 0}, nil}, // elevenths
		{4, []int{0, 1, 2, 3, 3, 3, 3, 3, 3, 3, 3, 3}, []int{3, 3, 3, 27}},
		{4, []int{0, 1, 1, 1, 1, 2, 2, 2, 2, 2, 3, 3}, []int{3, 12, 15, 6}},
		{4, []int{0, 1, 2, 3, 3, 3, 3, 3, 3, 3, 3, 3, 3}, nil}, // one more than MaxSeen
		{2, []int{0, 2}, nil},                                  // no worlds
		{2, []int{-1, 0}, nil},
		{2, []int{2}, nil},
		{1, []int{1}, nil},
		{4, []int{4}, nil},
		{4, []int{0, 1, 2, math.MaxInt}, nil},
		{4, []int{math.MinInt, 1, 2, 3}, nil},
		{0, nil, nil}, // no numbers of worlds
		{0, []int{0}, nil},
		{5, []int{0}, nil},
		{5, []int{4}, nil},
		{-1, []int{0}, nil},
		{-1, []int{-2}, nil},
		{math.MaxInt, []int{0}, nil},
		{math.MinInt, []int{0}, nil},
	} {
		if m, ok := impl.SeenMeasure(c.worlds, c.seen); ok != (c.want != nil) || !slices.Equal(m, c.want) {
			t.Errorf("SeenMeasure(%d, %v) = %v, %t, not %v", c.worlds, c.seen, m, ok, c.want)
		}
	}
}

// rivals returns measures with which one of as many worlds is compared: each one with one grain moved, those with all grains on one world, and drawn ones.
func rivals(draw func(below int) int, m []int) [][]int {
	var list [][]int
	for from := range m {
		list = append(list, allOnOne(len(m), from), drawMeasure(draw, len(m)), drawMeasure(draw, len(m)))
		for to := range m {
			list = append(list, movedGrain(m, from, to))
		}
	}
	return list
}

func TestPromise72WhatWasSeenScoresBestOnWhatWasSeen(t *testing.T) {
	draw, whole, broken := drawer(72), 0, 0
	eachSeen(func(worlds int, seen []int) {
		if len(seen) == 0 {
			return
		}
		m, ok := impl.SeenMeasure(worlds, seen)
		want := sharesSeen(worlds, seen)
		if ok != (want != nil) || !slices.Equal(m, want) {
			t.Fatalf("SeenMeasure(%d, %v) = %v, %t, not %v", worlds, seen, m, ok, want)
		}
		if turned, turnedOk := impl.SeenMeasure(worlds, turnedRow(seen)); turnedOk != ok || !slices.Equal(turned, m) {
			t.Fatalf("SeenMeasure(%d, %v) = %v, but from the last world to the first one %v", worlds, seen, m, turned)
		}
		if !ok {
			broken++
			return
		}
		whole++
		if len(m) != worlds || !impl.MeasureOk(m) {
			t.Fatalf("SeenMeasure(%d, %v) = %v, which is no measure", worlds, seen, m)
		}
		total := impl.TotalScore(m, seen)
		for _, other := range rivals(draw, m) {
			if less := impl.TotalScore(other, seen); less < total || less == total && !slices.Equal(other, m) {
				t.Fatalf("SeenMeasure(%d, %v) = %v, which scores %d, but %v scores %d", worlds, seen, m, total, other, less)
			}
		}
	})
	if whole < 1000 || broken < 1000 {
		t.Errorf("%d have whole shares, and %d have not", whole, broken)
	}
}

func TestOthersAreNotSeen(t *testing.T) {
	checkNone := func(worlds int, seen []int) {
		t.Helper()
		if m, ok := impl.SeenMeasure(worlds, seen); ok || len(m) != 0 {
			t.Fatalf("SeenMeasure(%d, %v) = %v, %t", worlds, seen, m, ok)
		}
	}
	eachNoSeen(checkNone)
	for _, worlds := range worldNumbers {
		checkNone(worlds, nil)
		checkNone(worlds, []int{})
		checkNone(worlds, make([]int, 13))
		if countOfEvents[worlds] > 0 {
			continue
		}
		for _, world := range append([]int{0, 1, 2, 3, worlds, worlds - 1, worlds + 1}, badWorlds...) {
			for count := 1; count <= 13; count++ {
				checkNone(worlds, slices.Repeat([]int{world}, count))
			}
		}
	}
}

func TestPromise73MixedReportsScoreNoWorseThanBothOnAverage(t *testing.T) {
	draw, less, same := drawer(73), 0, 0
	eachTwoMeasures(func(a []int, b []int) {
		m, ok := impl.MixedMeasure(a, b)
		if !ok {
			return
		}
		for _, truth := range [][]int{a, b, m, drawMeasure(draw, len(a))} {
			mixed := impl.ExpectedScore(truth, m)
			both := impl.ExpectedScore(truth, a) + impl.ExpectedScore(truth, b)
			if mixed < 0 || 2*mixed > both || (2*mixed < both) == slices.Equal(a, b) {
				t.Fatalf("by %v, %v and %v are expected to score %d together, and the mixed one %d", truth, a, b, both, mixed)
			}
			if 2*mixed < both {
				less++
			} else {
				same++
			}
		}
	})
	if less < 1000 || same < 1000 {
		t.Errorf("%d mixed ones score less, and %d as much", less, same)
	}
}

func TestSeenMeasuresAreNewMemory(t *testing.T) {
	eachSeen(func(worlds int, seen []int) {
		if len(seen) == 0 || sharesSeen(worlds, seen) == nil {
			return
		}
		checkNewMemory(t, append(slices.Clone(seen), 9, 9, 9, 9), len(seen), func(row []int) []int {
			m, _ := impl.SeenMeasure(worlds, row)
			return m
		})
	})
}

// TestScoresOnlyRead: no function of the chapter writes to a measure, to reports, to worlds that turned out, or to the room behind them, also not for calls that have no result.
func TestScoresOnlyRead(t *testing.T) {
	rows := [][]int{
		{36, 0, 0, 0, 0, 9},
		{0, 36, 0, 0, 0, 9},
		{12, 6, 18, 0, 0, 9},
		{18, 6, 12, 0, 1, 9},
		{9, 9, 9, 9, 0, 9},
		{-1, 37, 0, 0, 0, 9},
		{math.MaxInt, math.MaxInt, 38, 0, math.MinInt, 9},
	}
	worldRows := [][]int{{0, 1, 0, 2, 3, 1, 0, 0, 1, 1, 2, 3, 0, 9}, {0, 0, 0, 0, 0, 0, 0, 0, 0, 0, 0, 0, 0, 9}, {1, -1, 4, math.MaxInt, 0, math.MinInt, 9}}
	room, seenRoom := cloneRows(rows), cloneRows(worldRows)
	for length := range 7 {
		reports := make([][]int, len(room))
		for at, row := range room {
			reports[at] = row[:length]
		}
		for at, m := range reports {
			for world := -1; world <= 6; world++ {
				impl.ScoreOf(m, world)
			}
			for _, other := range reports {
				impl.ExpectedScore(m, other)
				impl.FarApart(m, other)
			}
			for count := range len(reports) + 1 {
				impl.BestReport(m, reports[:count])
				impl.BestReport(m, reports[min(at, count):count])
			}
			for _, seen := range seenRoom {
				for count := range len(seen) + 1 {
					impl.TotalScore(m, seen[:count])
					impl.SeenMeasure(length, seen[:count])
				}
			}
		}
		// The list of reports still has the rows themselves, in their order.
		for at, row := range room {
			if len(reports[at]) != length || length > 0 && &reports[at][0] != &row[0] {
				t.Fatalf("the reports at %d were written to: %v", at, reports)
			}
		}
	}
	if !slices.EqualFunc(room, rows, slices.Equal) || !slices.EqualFunc(seenRoom, worldRows, slices.Equal) {
		t.Errorf("%v or %v was written to: %v %v", rows, worldRows, room, seenRoom)
	}
}

// cloneRows returns copies of rows.
func cloneRows(rows [][]int) [][]int {
	list := make([][]int, len(rows))
	for at, row := range rows {
		list[at] = slices.Clone(row)
	}
	return list
}
