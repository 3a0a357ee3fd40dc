package tests

import (
	"math"
	"math/big"
	"slices"
	"testing"

	"loop.example/fairbooks/impl"
)

// edgeWeights has weights at the bounds and around nothing, with and without common divisors, and such of which evidence makes just MaxWeight, or a bit more.
var edgeWeights = []int{0, 1, 2, 6, 9, 100, 101, 111111, 111112, 125000, 200000, 250000, 333333, 500000, 500001, 999999, 1000000}

// badWeights has numbers that are no weights: the first ones past the bounds, and others up to the least and the greatest integers.
var badWeights = []int{math.MinInt, math.MinInt + 1, math.MinInt32, -1000001, -1000000, -2, -1, 1000001, 1000002, 9000000, 1 << 32, 1<<32 + 1, math.MaxInt32, math.MaxInt - 1, math.MaxInt}

// badLikely has numbers that do not tell how likely evidence is, likewise.
var badLikely = []int{math.MinInt, math.MinInt + 1, math.MinInt32, -10, -9, -2, -1, 10, 11, 100, 1 << 32, 1<<32 + 1, math.MaxInt32, math.MaxInt - 1, math.MaxInt}

// allLikely has all numbers that tell how likely evidence is.
var allLikely = []int{0, 1, 2, 3, 4, 5, 6, 7, 8, 9}

// isWeights tells by counting what WeightsOk has to report.
func isWeights(w []int) bool {
	weights, without := 0, 0
	for _, weight := range w {
		if -1 < weight && weight < 1000001 {
			weights++
		}
		if weight == 0 {
			without++
		}
	}
	return weights == len(w) && without < weights && slices.Contains([]int{1, 2, 3, 4}, weights)
}

// isEvidence tells by counting what EvidenceOk has to report.
func isEvidence(worlds int, row []int) bool {
	likely := 0
	for _, number := range row {
		if slices.Contains(allLikely, number) {
			likely++
		}
	}
	return likely == len(row) && likely == worlds && countOfEvents[worlds] > 0
}

// leastWeights tells by the library's great numbers what ReducedWeights has to return.
func leastWeights(w []int) []int {
	divisor := new(big.Int)
	for _, weight := range w {
		divisor.GCD(nil, nil, divisor, big.NewInt(int64(weight)))
	}
	least := make([]int, len(w))
	for world, weight := range w {
		least[world] = int(new(big.Int).Div(big.NewInt(int64(weight)), divisor).Int64())
	}
	return least
}

// times returns a row whose numbers are taken so many times.
func times(row []int, factor int) []int {
	more := slices.Clone(row)
	for at := range more {
		more[at] *= factor
	}
	return more
}

// addedUp returns, by adding one weight after the other, the weights each times how likely evidence is in its world.
func addedUp(w []int, row []int) []int {
	sums := make([]int, len(w))
	for world, weight := range w {
		for range row[world] {
			sums[world] += weight
		}
	}
	return sums
}

// learnedOnce tells what LearnedFrom has to return for weights and a row of evidence; nil if nothing is told.
func learnedOnce(w []int, row []int) []int {
	sums := addedUp(w, row)
	if greatest := slices.Max(sums); greatest == 0 || greatest > 1000000 {
		return nil
	}
	return leastWeights(sums)
}

// learnedAtOnce tells what LearnedAll has to return by making all products before one division, in no order of the rows; nil if all is excluded.
func learnedAtOnce(w []int, rows [][]int) []int {
	products := slices.Clone(w)
	for world := range products {
		for _, row := range rows {
			products[world] *= row[world]
		}
	}
	if slices.Max(products) == 0 {
		return nil
	}
	return leastWeights(products)
}

// believed tells by the library's fractions what BelievedOf has to return.
func believed(w []int, event int) (int, int) {
	part := big.NewRat(int64(onEvent(w, event)), int64(onEvent(w, 15)))
	return int(part.Num().Int64()), int(part.Denom().Int64())
}

// drawWeights draws weights of so many worlds, each at most so much; some of them have no weight.
func drawWeights(draw func(below int) int, worlds int, most int) []int {
	w := make([]int, worlds)
	for world := range w {
		if draw(4) > 0 {
			w[world] = draw(most + 1)
		}
	}
	w[draw(worlds)] = 1 + draw(most)
	return w
}

// drawLikely draws a row of evidence of so many worlds, with numbers in least..most.
func drawLikely(draw func(below int) int, worlds int, least int, most int) []int {
	row := make([]int, worlds)
	for world := range row {
		row[world] = least + draw(most-least+1)
	}
	return row
}

// drawRows draws so many such rows.
func drawRows(draw func(below int) int, worlds int, count int, least int, most int) [][]int {
	rows := make([][]int, count)
	for at := range rows {
		rows[at] = drawLikely(draw, worlds, least, most)
	}
	return rows
}

// someWeights has, by the number of worlds, weights at the edges, and drawn ones, half of them taken so many times.
var someWeights = map[int][][]int{1: listWeights(1), 2: listWeights(2), 3: listWeights(3), 4: listWeights(4)}

// listWeights returns the weights that someWeights has of so many worlds.
func listWeights(worlds int) [][]int {
	few := [][]int{nil, edgeWeights, edgeWeights, {0, 1, 6, 9, 111112, 500000, 1000000}, {0, 1, 6, 250000, 1000000}}[worlds]
	var list [][]int
	for _, w := range rowsOf(worlds, few) {
		if slices.Max(w) > 0 {
			list = append(list, w)
		}
	}
	draw := drawer(uint64(1200 + worlds))
	for _, most := range []int{3, 12, 100, 1000, 111111, 1000000} {
		for range 25 {
			w := drawWeights(draw, worlds, most)
			list = append(list, w, times(w, 1+draw(1000000/slices.Max(w))))
		}
	}
	return list
}

// eachWeights calls a function with weights of 1..4 worlds: those of someWeights, and all measures.
func eachWeights(do func(w []int)) {
	for worlds := 1; worlds <= 4; worlds++ {
		for _, w := range someWeights[worlds] {
			do(w)
		}
	}
	eachMeasure(do)
}

// noWeights returns rows that are no weights: of too few or too many worlds, without any weight, or with a bad one in any place.
func noWeights() [][]int {
	list := [][]int{nil, {}, {0, 0, 0, 0, 1}, {1, 1, 1, 1, 1}, {1, 0, 0, 0, 0}, make([]int, 64), slices.Repeat([]int{1}, 64), slices.Repeat([]int{6}, 1000), {1, -1}, {2, -1}, {-1, 2}, {1000001, -1}}
	for worlds := 1; worlds <= 6; worlds++ {
		list = append(list, make([]int, worlds))
		for _, bad := range badWeights {
			list = append(list, slices.Repeat([]int{bad}, worlds))
			for at := range worlds {
				for _, other := range []int{0, 1, 6, 1000000} {
					row := slices.Repeat([]int{other}, worlds)
					row[at] = bad
					list = append(list, row)
				}
			}
		}
	}
	// Such that sums leave the integers and come back.
	return append(list, []int{math.MaxInt, math.MaxInt, 3}, []int{math.MaxInt, math.MaxInt, 2}, []int{math.MinInt, math.MinInt, 6}, []int{math.MinInt, math.MinInt}, []int{1 << 62, 1 << 62, 1 << 62, 1 << 62})
}

// someEvidence returns rows of evidence of so many worlds: all of at most two worlds, and of more worlds those that are as likely in each world, those that exclude all worlds but one, or one world, some at the edges, and drawn ones.
func someEvidence(worlds int) [][]int {
	if worlds <= 2 {
		return rowsOf(worlds, allLikely)
	}
	list := rowsOf(worlds, []int{0, 1, 9})
	for _, likely := range allLikely {
		list = append(list, slices.Repeat([]int{likely}, worlds))
	}
	draw := drawer(uint64(1210 + worlds))
	for range 40 {
		list = append(list, drawLikely(draw, worlds, 0, 9), drawLikely(draw, worlds, 0, 2))
	}
	for at := range worlds {
		alone := make([]int, worlds)
		alone[at] = 1 + draw(9)
		excluded := drawLikely(draw, worlds, 0, 9)
		excluded[at] = 0
		list = append(list, alone, excluded)
	}
	return list
}

// eachLearning calls a function with weights and rows of evidence: all of someWeights, with all of someEvidence.
func eachLearning(do func(w []int, row []int)) {
	for worlds := 1; worlds <= 4; worlds++ {
		rows := someEvidence(worlds)
		for _, w := range someWeights[worlds] {
			for _, row := range rows {
				do(w, row)
			}
		}
	}
}

// noEvidence returns rows that are no evidence of so many worlds: of another length, or with a bad number in any place.
func noEvidence(worlds int) [][]int {
	list := [][]int{make([]int, 64), slices.Repeat([]int{1}, 64), slices.Repeat([]int{1}, 1000)}
	for length := range 7 {
		if length != worlds {
			list = append(list, make([]int, length), slices.Repeat([]int{1}, length), slices.Repeat([]int{9}, length))
		}
	}
	for _, bad := range badLikely {
		list = append(list, slices.Repeat([]int{bad}, worlds))
		for at := range worlds {
			for _, other := range []int{0, 1, 9} {
				row := slices.Repeat([]int{other}, worlds)
				row[at] = bad
				list = append(list, row)
			}
		}
	}
	return list
}

// firstWeights returns weights of so many worlds from which rows may be learned: some at the edges, and drawn ones.
func firstWeights(worlds int) [][]int {
	list := [][]int{slices.Repeat([]int{1}, worlds), slices.Repeat([]int{100}, worlds), []int{100, 99, 97, 1}[:worlds], []int{1, 100, 50, 20}[:worlds], []int{36, 24, 60, 0}[:worlds]}
	for world := range worlds {
		one := make([]int, worlds)
		one[world] = 100
		list = append(list, one)
	}
	draw := drawer(uint64(1220 + worlds))
	for range 6 {
		list = append(list, drawWeights(draw, worlds, 100), drawWeights(draw, worlds, 8))
	}
	return list
}

// rowLists returns lists of at most four rows of evidence of so many worlds: all of up to three rows whose numbers are 0, 1 or 9 for at most two worlds, those that are as likely as can be, or so in one world, and drawn ones, of which some exclude much.
func rowLists(worlds int) [][][]int {
	list := [][][]int{nil, {}}
	if worlds <= 2 {
		few := rowsOf(worlds, []int{0, 1, 9})
		for count := 1; count <= 3; count++ {
			for _, places := range rowsOf(count, []int{0, 1, 2, 3, 4, 5, 6, 7, 8}[:len(few)]) {
				rows := make([][]int, count)
				for at, place := range places {
					rows[at] = few[place]
				}
				list = append(list, rows)
			}
		}
	}
	draw := drawer(uint64(1230 + worlds))
	for count := 1; count <= 4; count++ {
		steep := slices.Repeat([]int{1}, worlds)
		steep[draw(worlds)] = 9
		list = append(list, slices.Repeat([][]int{slices.Repeat([]int{9}, worlds)}, count), slices.Repeat([][]int{steep}, count))
		for range 60 {
			// Of the last ones none excludes a world.
			list = append(list, drawRows(draw, worlds, count, 0, 9), drawRows(draw, worlds, count, 0, 2), drawRows(draw, worlds, count, 1, 3))
		}
	}
	return list
}

// eachRows calls a function with weights of at most MaxFirst and lists of rows of evidence.
func eachRows(do func(w []int, rows [][]int)) {
	for worlds := 1; worlds <= 4; worlds++ {
		lists := rowLists(worlds)
		for _, w := range firstWeights(worlds) {
			for _, rows := range lists {
				do(w, rows)
			}
		}
	}
}

// checkWeights tests that there are weights of so many worlds that are reduced.
func checkWeights(t *testing.T, w []int, worlds int) {
	t.Helper()
	if len(w) != worlds || !isWeights(w) || !impl.WeightsOk(w) || !slices.Equal(leastWeights(w), w) {
		t.Fatalf("%v are no reduced weights of %d worlds", w, worlds)
	}
}

// checkAsBefore tests that each two weights go as two others did.
func checkAsBefore(t *testing.T, now []int, before []int) {
	t.Helper()
	for one := range now {
		for other := range now {
			if now[one]*before[other] != now[other]*before[one] {
				t.Fatalf("%v: the worlds %d and %d do not go as in %v", now, one, other, before)
			}
		}
	}
}

// checkLearned tests what LearnedFrom returns: some weights, or none for nil.
func checkLearned(t *testing.T, w []int, row []int, want []int) {
	t.Helper()
	if got, ok := impl.LearnedFrom(w, row); ok != (want != nil) || !slices.Equal(got, want) {
		t.Fatalf("LearnedFrom(%v, %v) = %v, %t, not %v", w, row, got, ok, want)
	}
}

// checkLearnedAll tests likewise what LearnedAll returns.
func checkLearnedAll(t *testing.T, w []int, rows [][]int, want []int) {
	t.Helper()
	if got, ok := impl.LearnedAll(w, rows); ok != (want != nil) || !slices.Equal(got, want) {
		t.Fatalf("LearnedAll(%v, %v) = %v, %t, not %v", w, rows, got, ok, want)
	}
}

// checkBelieved tests what BelievedOf returns: the two numbers, or 0 and 0 if nothing is told.
func checkBelieved(t *testing.T, w []int, event int, over int, under int) {
	t.Helper()
	if gotOver, gotUnder, ok := impl.BelievedOf(w, event); gotOver != over || gotUnder != under || ok != (under != 0) {
		t.Fatalf("BelievedOf(%v, %d) = %d, %d, %t, not %d, %d", w, event, gotOver, gotUnder, ok, over, under)
	}
}

func TestBoundsOfLearning(t *testing.T) {
	if impl.MaxWeight != 1000000 || impl.MaxFirst != 100 || impl.MaxLikely != 9 || impl.MaxRows != 4 {
		t.Fatalf("MaxWeight = %d, MaxFirst = %d, MaxLikely = %d, MaxRows = %d", impl.MaxWeight, impl.MaxFirst, impl.MaxLikely, impl.MaxRows)
	}
}

func TestSomeWeights(t *testing.T) {
	for _, c := range []struct {
		w       []int
		ok      bool
		reduced []int
	}{
		{[]int{1}, true, []int{1}}, // one world
		{[]int{7}, true, []int{1}},
		{[]int{1000000}, true, []int{1}},
		{[]int{0}, false, nil},
		{[]int{1000001}, false, nil},
		{[]int{3, 0}, true, []int{1, 0}}, // one weight that is not 0
		{[]int{0, 1}, true, []int{0, 1}},
		{[]int{0, 0, 1000000}, true, []int{0, 0, 1}},
		{[]int{0, 14, 0, 0}, true, []int{0, 1, 0, 0}},
		{[]int{0, 0}, false, nil}, // no weight at all
		{[]int{0, 0, 0, 0}, false, nil},
		{[]int{6, 0, 9}, true, []int{2, 0, 3}}, // with a common divisor
		{[]int{5, 5}, true, []int{1, 1}},
		{[]int{12, 6, 18}, true, []int{2, 1, 3}},
		{[]int{21, 14, 35, 7}, true, []int{3, 2, 5, 1}},
		{[]int{1000000, 1000000, 1000000, 1000000}, true, []int{1, 1, 1, 1}},
		{[]int{1000000, 500000, 250000, 0}, true, []int{4, 2, 1, 0}},
		{[]int{720720, 360360, 1, 0}, true, []int{720720, 360360, 1, 0}}, // without one
		{[]int{1000000, 999999}, true, []int{1000000, 999999}},
		{[]int{6, 10, 15}, true, []int{6, 10, 15}}, // each two have one, but not all three
		{[]int{30, 42, 70, 105}, true, []int{30, 42, 70, 105}},
		{[]int{60, 84, 140, 210}, true, []int{30, 42, 70, 105}},
		{[]int{2, 3}, true, []int{2, 3}},
		{[]int{1000000, 1000001}, false, nil}, // one more than MaxWeight
		{[]int{1000001, 0, 0, 0}, false, nil},
		{[]int{6, -9}, false, nil}, // less than nothing
		{[]int{-6, -9}, false, nil},
		{[]int{6, 0, -1, 0}, false, nil},
		{[]int{}, false, nil}, // no worlds
		{nil, false, nil},
		{[]int{1, 1, 1, 1, 1}, false, nil}, // one more than MaxWorlds
		{[]int{2, 4, 6, 8, 0}, false, nil},
		{[]int{math.MaxInt}, false, nil},
		{[]int{6, math.MaxInt, 9}, false, nil},
		{[]int{math.MinInt, 6}, false, nil},
		{[]int{0, math.MinInt}, false, nil},
	} {
		if got := impl.WeightsOk(c.w); got != c.ok {
			t.Errorf("WeightsOk(%v) = %t", c.w, got)
		}
		if got := impl.ReducedWeights(c.w); !slices.Equal(got, c.reduced) {
			t.Errorf("ReducedWeights(%v) = %v, not %v", c.w, got, c.reduced)
		}
	}
}

func TestPromise74SomeWorldHasWeight(t *testing.T) {
	if !impl.WeightsOk([]int{1}) {
		t.Errorf("one world of weight 1 has no weights")
	}
	for worlds := range 7 {
		none, one := make([]int, worlds), slices.Repeat([]int{1}, worlds)
		if impl.WeightsOk(none) {
			t.Errorf("%v are weights", none)
		}
		if impl.WeightsOk(one) != (1 <= worlds && worlds <= 4) {
			t.Errorf("WeightsOk(%v) = %t", one, impl.WeightsOk(one))
		}
		for world := range worlds {
			first := allOnOne(worlds, world)
			if impl.WeightsOk(first) != (worlds <= 4) || impl.WeightsOk(first) != impl.MeasureOk(first) {
				t.Errorf("WeightsOk(%v) = %t", first, impl.WeightsOk(first))
			}
		}
	}
	eachWeights(func(w []int) {
		if !isWeights(w) || !impl.WeightsOk(w) {
			t.Fatalf("WeightsOk(%v) = false", w)
		}
		if none := times(w, 0); impl.WeightsOk(none) {
			t.Fatalf("WeightsOk(%v) = true", none)
		}
	})
}

func TestOthersAreNoWeights(t *testing.T) {
	for _, bad := range noWeights() {
		if isWeights(bad) || impl.WeightsOk(bad) {
			t.Errorf("WeightsOk(%v) = true", bad)
		}
		if got := impl.ReducedWeights(bad); len(got) != 0 {
			t.Errorf("ReducedWeights(%v) = %v", bad, got)
		}
	}
}

func TestPromise75ReducedWeightsGoAsBefore(t *testing.T) {
	divided, undivided, twice := 0, 0, 0
	eachWeights(func(w []int) {
		got := impl.ReducedWeights(w)
		if !slices.Equal(got, leastWeights(w)) {
			t.Fatalf("ReducedWeights(%v) = %v, not %v", w, got, leastWeights(w))
		}
		checkWeights(t, got, len(w))
		checkAsBefore(t, got, w)
		if again := impl.ReducedWeights(got); !slices.Equal(again, got) {
			t.Fatalf("ReducedWeights(%v) = %v, which are reduced already", got, again)
		}
		if slices.Equal(got, w) {
			undivided++
		} else {
			divided++
		}
		for factor := 2; factor <= 9; factor++ {
			more := times(w, factor)
			if impl.WeightsOk(more) != (slices.Max(w) <= 1000000/factor) {
				t.Fatalf("WeightsOk(%v) = %t", more, impl.WeightsOk(more))
			}
			want := got
			if !impl.WeightsOk(more) {
				want = nil
			}
			if reduced := impl.ReducedWeights(more); !slices.Equal(reduced, want) {
				t.Fatalf("ReducedWeights(%v) = %v, but of %v %v", more, reduced, w, got)
			}
			if factor == 2 && want != nil {
				twice++
			}
		}
	})
	if divided < 1000 || undivided < 1000 || twice < 1000 {
		t.Errorf("%d are divided, %d need not be, and of %d all are taken twice", divided, undivided, twice)
	}
}

func TestSomeEvidence(t *testing.T) {
	for _, c := range []struct {
		worlds int
		row    []int
		want   bool
	}{
		{1, []int{0}, true}, // one world
		{1, []int{9}, true},
		{1, []int{10}, false},
		{1, []int{-1}, false},
		{1, nil, false},
		{2, []int{0, 9}, true},
		{2, []int{0, 10}, false},
		{2, []int{10, 0}, false},
		{2, []int{-1, 9}, false},
		{2, []int{0}, false}, // rows of other numbers of worlds
		{2, []int{0, 0, 0}, false},
		{2, nil, false},
		{3, []int{1, 1, 1}, true},
		{3, []int{1, 2}, false},
		{3, []int{1, 2, 3, 4}, false},
		{4, []int{0, 0, 0, 0}, true}, // MaxWorlds worlds
		{4, []int{9, 9, 9, 9}, true},
		{4, []int{9, 9, 9, 10}, false},
		{4, []int{9, 9, 9}, false},
		{4, []int{9, 9, 9, 9, 9}, false},
		{5, []int{9, 9, 9, 9, 9}, false}, // one more
		{5, []int{9, 9, 9, 9}, false},
		{0, nil, false}, // no worlds
		{0, []int{}, false},
		{0, []int{1}, false},
		{-1, nil, false},
		{-1, []int{1}, false},
		{math.MinInt, nil, false},
		{math.MaxInt, []int{1}, false},
		{2, []int{math.MinInt, 1}, false},
		{2, []int{1, math.MaxInt}, false},
	} {
		if got := impl.EvidenceOk(c.worlds, c.row); got != c.want {
			t.Errorf("EvidenceOk(%d, %v) = %t", c.worlds, c.row, got)
		}
	}
}

func TestPromise76EvidenceMayExclude(t *testing.T) {
	for worlds := 1; worlds <= impl.MaxWorlds; worlds++ {
		for likely := range 10 {
			if row := slices.Repeat([]int{likely}, worlds); !impl.EvidenceOk(worlds, row) {
				t.Errorf("EvidenceOk(%d, %v) = false", worlds, row)
			}
		}
		for _, row := range someEvidence(worlds) {
			if !isEvidence(worlds, row) || !impl.EvidenceOk(worlds, row) {
				t.Fatalf("EvidenceOk(%d, %v) = false", worlds, row)
			}
			for _, other := range worldNumbers {
				if other != worlds && impl.EvidenceOk(other, row) {
					t.Fatalf("EvidenceOk(%d, %v) = true", other, row)
				}
			}
		}
	}
}

func TestOtherRowsAreNoEvidence(t *testing.T) {
	for worlds := 1; worlds <= impl.MaxWorlds; worlds++ {
		for _, row := range noEvidence(worlds) {
			if isEvidence(worlds, row) || impl.EvidenceOk(worlds, row) {
				t.Errorf("EvidenceOk(%d, %v) = true", worlds, row)
			}
		}
	}
	for _, worlds := range worldNumbers {
		for length := range 66 {
			for _, likely := range []int{0, 1, 9} {
				row := slices.Repeat([]int{likely}, length)
				if got := impl.EvidenceOk(worlds, row); got != isEvidence(worlds, row) {
					t.Errorf("EvidenceOk(%d, %v) = %t", worlds, row, got)
				}
			}
		}
	}
}

func TestSomeIsLearned(t *testing.T) {
	for _, c := range []struct{ w, row, want []int }{
		{[]int{1}, []int{1}, []int{1}}, // one world
		{[]int{7}, []int{9}, []int{1}},
		{[]int{7}, []int{0}, nil},
		{[]int{2, 3}, []int{3, 4}, []int{1, 2}},
		{[]int{2, 3}, []int{1, 1}, []int{2, 3}}, // as likely in each world
		{[]int{2, 3}, []int{9, 9}, []int{2, 3}},
		{[]int{12, 6, 18}, []int{1, 1, 1}, []int{2, 1, 3}},
		{[]int{12, 6, 18}, []int{5, 5, 5}, []int{2, 1, 3}},
		{[]int{12, 6, 18}, []int{1, 2, 3}, []int{2, 2, 9}},
		{[]int{12, 6, 18}, []int{0, 2, 3}, []int{0, 2, 9}}, // it excludes some worlds
		{[]int{12, 6, 18}, []int{0, 0, 4}, []int{0, 0, 1}},
		{[]int{0, 6, 18}, []int{9, 2, 3}, []int{0, 2, 9}}, // what had no weight has none
		{[]int{0, 1}, []int{9, 1}, []int{0, 1}},
		{[]int{2, 0}, []int{0, 4}, nil}, // it excludes all that have weight
		{[]int{12, 6, 0}, []int{0, 0, 9}, nil},
		{[]int{12, 6, 18}, []int{0, 0, 0}, nil},
		{[]int{2, 3, 5, 7}, []int{7, 5, 3, 2}, []int{14, 15, 15, 14}}, // MaxWorlds worlds
		{[]int{1, 2, 4, 8}, []int{8, 4, 2, 1}, []int{1, 1, 1, 1}},
		{[]int{500000, 1}, []int{2, 1}, []int{1000000, 1}}, // the greatest product is MaxWeight
		{[]int{500000, 0}, []int{2, 1}, []int{1, 0}},
		{[]int{200000, 199999}, []int{5, 5}, []int{200000, 199999}},
		{[]int{500001, 1}, []int{2, 1}, nil}, // and more, also such that reduced it would not be more
		{[]int{500001, 0}, []int{2, 1}, nil},
		{[]int{500000, 500000}, []int{3, 3}, nil},
		{[]int{1000000}, []int{1}, []int{1}},
		{[]int{1000000}, []int{2}, nil},
		{[]int{1000000, 1}, []int{1, 9}, []int{1000000, 9}},
		{[]int{1000000, 1}, []int{0, 9}, []int{0, 1}}, // what is excluded is not too much
		{[]int{1000000, 111111}, []int{0, 9}, []int{0, 1}},
		{[]int{1000000, 111112}, []int{0, 9}, nil},
		{[]int{0, 0, 0, 111111}, []int{9, 9, 9, 9}, []int{0, 0, 0, 1}},
		{[]int{0, 0, 0, 111112}, []int{9, 9, 9, 9}, nil},
		{[]int{999999, 333333}, []int{1, 3}, []int{1, 1}},
		{[]int{2, 3}, []int{3}, nil}, // rows of other numbers of worlds
		{[]int{2, 3}, []int{3, 4, 0}, nil},
		{[]int{2, 3}, nil, nil},
		{[]int{2, 3}, []int{3, 10}, nil}, // no evidence
		{[]int{2, 0}, []int{3, 10}, nil},
		{[]int{2, 3}, []int{-1, 4}, nil},
		{[]int{2, 3}, []int{-3, -4}, nil},
		{[]int{0, 0}, []int{3, 4}, nil}, // no weights
		{[]int{-2, 3}, []int{0, 4}, nil},
		{[]int{1000001, 3}, []int{0, 4}, nil},
		{[]int{-2, -3}, []int{-3, -4}, nil},
		{[]int{1, 1, 1, 1, 1}, []int{1, 1, 1, 1, 1}, nil},
		{[]int{}, []int{}, nil}, // no worlds
		{nil, nil, nil},
		{nil, []int{1}, nil},
		{[]int{math.MaxInt, 1}, []int{0, 1}, nil},
		{[]int{math.MinInt, 1}, []int{2, 1}, nil},
		{[]int{1, 1}, []int{math.MinInt, 1}, nil},
		{[]int{0, 1}, []int{math.MaxInt, 1}, nil},
	} {
		checkLearned(t, c.w, c.row, c.want)
	}
}

func TestPromise77WhatIsAsLikelyEverywhereTeachesNothing(t *testing.T) {
	told, excluded, tooMuch, just := 0, 0, 0, 0
	eachLearning(func(w []int, row []int) {
		want := learnedOnce(w, row)
		checkLearned(t, w, row, want)
		sums := addedUp(w, row)
		switch greatest := slices.Max(sums); {
		case greatest == 0:
			excluded++
		case greatest > 1000000:
			tooMuch++
		case greatest == 1000000:
			just++
		}
		if want == nil {
			return
		}
		told++
		learned, _ := impl.LearnedFrom(w, row)
		checkWeights(t, learned, len(w))
		checkAsBefore(t, learned, sums)
		for world, weight := range w {
			if (learned[world] == 0) != (weight == 0 || row[world] == 0) {
				t.Fatalf("LearnedFrom(%v, %v) = %v", w, row, learned)
			}
		}
	})
	if told < 10000 || excluded < 1000 || tooMuch < 1000 || just < 100 {
		t.Errorf("%d are told, %d exclude all, %d make too much, %d just MaxWeight", told, excluded, tooMuch, just)
	}
	eachWeights(func(w []int) {
		reduced := impl.ReducedWeights(w)
		checkLearned(t, w, make([]int, len(w)), nil)
		for likely := 1; likely <= 9; likely++ {
			want := reduced
			if slices.Max(w)*likely > 1000000 {
				want = nil
			}
			checkLearned(t, w, slices.Repeat([]int{likely}, len(w)), want)
		}
	})
}

func TestNothingIsLearnedFromOthers(t *testing.T) {
	for _, bad := range noWeights() {
		for worlds := 1; worlds <= 5; worlds++ {
			for _, likely := range []int{0, 1, 9} {
				checkLearned(t, bad, slices.Repeat([]int{likely}, worlds), nil)
			}
		}
		checkLearned(t, bad, nil, nil)
		checkLearned(t, bad, bad, nil)
		checkLearned(t, bad, make([]int, len(bad)), nil)
		checkLearned(t, bad, slices.Repeat([]int{1}, len(bad)), nil)
	}
	for worlds := 1; worlds <= impl.MaxWorlds; worlds++ {
		for _, row := range noEvidence(worlds) {
			for _, w := range firstWeights(worlds) {
				checkLearned(t, w, row, nil)
			}
		}
	}
}

func TestSomeIsLearnedFromRows(t *testing.T) {
	nine := []int{9, 9}
	for _, c := range []struct {
		w    []int
		rows [][]int
		want []int
	}{
		{[]int{1}, nil, []int{1}}, // one world
		{[]int{100}, [][]int{{9}, {9}, {9}, {9}}, []int{1}},
		{[]int{100}, [][]int{{9}, {0}, {9}, {9}}, nil},
		{[]int{2, 4}, nil, []int{1, 2}}, // no rows
		{[]int{2, 4}, [][]int{}, []int{1, 2}},
		{[]int{2, 3}, nil, []int{2, 3}},
		{[]int{0, 7}, nil, []int{0, 1}},
		{[]int{0, 0}, nil, nil},
		{[]int{2, 4}, [][]int{{1, 2}}, []int{1, 4}}, // one row
		{[]int{2, 4}, [][]int{{1, 2}, {3, 1}}, []int{3, 4}},
		{[]int{2, 4}, [][]int{{3, 1}, {1, 2}}, []int{3, 4}},
		{[]int{2, 4}, [][]int{{1, 2}, {3, 1}, {4, 3}}, []int{1, 1}},
		{[]int{2, 4}, [][]int{{1, 2}, {3, 1}, {4, 3}, {5, 7}}, []int{5, 7}}, // MaxRows rows
		{[]int{2, 4}, [][]int{{1, 2}, {3, 1}, {4, 3}, {5, 7}, {1, 1}}, nil}, // one more
		{[]int{2, 4}, slices.Repeat([][]int{nine}, 4), []int{1, 2}},
		{[]int{2, 4}, slices.Repeat([][]int{nine}, 5), nil},
		{[]int{2, 4}, slices.Repeat([][]int{nine}, 1000), nil},
		{[]int{100, 100}, nil, []int{1, 1}}, // MaxFirst, and one more
		{[]int{100, 0, 50, 25}, nil, []int{4, 0, 2, 1}},
		{[]int{101, 101}, nil, nil},
		{[]int{101, 0, 50, 25}, [][]int{{1, 1, 1, 1}}, nil},
		{[]int{1, 101}, nil, nil},
		{[]int{1, 101}, [][]int{{1, 0}}, nil},
		{[]int{200, 100}, nil, nil}, // reduced they would be small
		{[]int{1000000}, nil, nil},
		{[]int{100, 1}, slices.Repeat([][]int{{9, 1}}, 4), []int{656100, 1}}, // as much as four rows can make
		{[]int{1, 100}, slices.Repeat([][]int{{1, 9}}, 4), []int{1, 656100}},
		{[]int{100, 99}, slices.Repeat([][]int{{9, 8}}, 4), []int{18225, 11264}},
		{[]int{12, 6, 18}, [][]int{{0, 1, 1}, {9, 1, 1}}, []int{0, 1, 3}}, // what is excluded once stays so
		{[]int{12, 6, 18}, [][]int{{0, 1, 1}, {9, 1, 0}, {1, 5, 9}}, []int{0, 1, 0}},
		{[]int{12, 6, 18}, [][]int{{0, 1, 1}, {9, 0, 0}}, nil}, // all is excluded, by each row another part
		{[]int{12, 6, 18}, [][]int{{0, 1, 1}, {1, 0, 1}, {1, 1, 0}}, nil},
		{[]int{12, 6, 18}, [][]int{{0, 1, 1}, {1, 0, 1}, {1, 1, 0}, {1, 1, 1}}, nil},
		{[]int{12, 6, 18}, [][]int{{0, 0, 0}, {1, 1, 1}}, nil},
		{[]int{12, 6, 18}, [][]int{{1, 1, 1}, {0, 0, 0}}, nil},
		{[]int{0, 6, 0}, [][]int{{1, 0, 1}}, nil},
		{[]int{2, 3, 5, 7}, [][]int{{7, 5, 3, 2}, {1, 1, 1, 1}, {2, 1, 1, 2}}, []int{28, 15, 15, 28}}, // MaxWorlds worlds
		{[]int{2, 4}, [][]int{{1, 2, 3}}, nil},                                                        // rows of other numbers of worlds
		{[]int{2, 4}, [][]int{{1}}, nil},
		{[]int{2, 4}, [][]int{nil}, nil},
		{[]int{2, 4}, [][]int{{1, 2}, {1, 2, 3}}, nil},
		{[]int{2, 4}, [][]int{{1, 2, 3}, {1, 2}}, nil},
		{[]int{2, 4}, [][]int{{1, 2}, {}, {1, 2}}, nil},
		{[]int{2, 4}, [][]int{{1, 10}}, nil}, // one bad row
		{[]int{2, 4}, [][]int{{-1, 1}, {1, 2}}, nil},
		{[]int{2, 4}, [][]int{{1, 2}, {1, 2}, {1, 2}, {1, 10}}, nil},
		{[]int{2, 4}, [][]int{{1, math.MaxInt}}, nil},
		{[]int{2, 4}, [][]int{{math.MinInt, 1}}, nil},
		{[]int{0, 0}, [][]int{{1, 2}}, nil}, // no weights
		{[]int{-2, 4}, [][]int{{1, 2}}, nil},
		{[]int{-2, -4}, nil, nil},
		{[]int{1, 1, 1, 1, 1}, nil, nil},
		{[]int{1, 1, 1, 1, 1}, [][]int{{1, 1, 1, 1, 1}}, nil},
		{[]int{}, nil, nil}, // no worlds
		{nil, nil, nil},
		{nil, [][]int{nil}, nil},
		{nil, [][]int{{}}, nil},
		{[]int{math.MaxInt, 1}, nil, nil},
		{[]int{1, math.MinInt}, nil, nil},
	} {
		checkLearnedAll(t, c.w, c.rows, c.want)
	}
}

func TestPromise78InAnyOrderEvidenceLeadsToTheSame(t *testing.T) {
	told, excluded, onTheWay, none := 0, 0, 0, 0
	eachRows(func(w []int, rows [][]int) {
		want := learnedAtOnce(w, rows)
		checkLearnedAll(t, w, rows, want)
		turned := slices.Clone(rows)
		slices.Reverse(turned)
		checkLearnedAll(t, w, turned, want)
		if len(rows) > 0 {
			checkLearnedAll(t, w, append(slices.Clone(rows[1:]), rows[0]), want)
		}
		// One after the other it is the same as well, from the reduced weights on.
		learned, ok := impl.ReducedWeights(w), true
		for _, row := range rows {
			learned, ok = impl.LearnedFrom(learned, row)
		}
		if ok != (want != nil) || !slices.Equal(learned, want) {
			t.Fatalf("from %v it is %v, %t by one row of %v after the other, not %v", w, learned, ok, rows, want)
		}
		switch {
		case len(rows) == 0:
			none++
		case want != nil:
			checkWeights(t, want, len(w))
			told++
		case learnedAtOnce(w, rows[:len(rows)-1]) == nil:
			onTheWay++
		default:
			excluded++
		}
	})
	if told < 10000 || excluded < 1000 || onTheWay < 1000 || none < 50 {
		t.Errorf("%d are told, of %d all is excluded by the last row, of %d before, %d have no rows", told, excluded, onTheWay, none)
	}
}

func TestNothingIsLearnedFromOtherRows(t *testing.T) {
	for _, bad := range noWeights() {
		checkLearnedAll(t, bad, nil, nil)
		checkLearnedAll(t, bad, [][]int{}, nil)
		checkLearnedAll(t, bad, [][]int{slices.Repeat([]int{1}, len(bad))}, nil)
		checkLearnedAll(t, bad, [][]int{{1, 1}}, nil)
	}
	for worlds := 1; worlds <= impl.MaxWorlds; worlds++ {
		good := slices.Repeat([]int{1}, worlds)
		for _, w := range firstWeights(worlds) {
			// Each weight may be MaxFirst, and none one more, also if evidence excludes it.
			for world := range worlds {
				for first := 99; first <= 102; first++ {
					other := slices.Clone(w)
					other[world] = first
					only := make([]int, worlds)
					only[(world+1)%worlds] = 1
					for _, rows := range [][][]int{nil, {good}, {only}} {
						want := learnedAtOnce(other, rows)
						if first > 100 {
							want = nil
						}
						checkLearnedAll(t, other, rows, want)
					}
				}
			}
			for count := 5; count <= 9; count++ {
				checkLearnedAll(t, w, slices.Repeat([][]int{good}, count), nil)
			}
		}
		for _, bad := range noEvidence(worlds) {
			for count := 1; count <= 5; count++ {
				for at := range count {
					rows := slices.Repeat([][]int{good}, count)
					rows[at] = bad
					checkLearnedAll(t, good, rows, nil)
					checkLearnedAll(t, allOnOne(worlds, worlds-1), rows, nil)
				}
				checkLearnedAll(t, good, slices.Repeat([][]int{bad}, count), nil)
			}
		}
	}
}

func TestSomeIsBelieved(t *testing.T) {
	for _, c := range []struct {
		w           []int
		event       int
		over, under int
	}{
		{[]int{7}, 1, 1, 1}, // one world
		{[]int{7}, 0, 0, 1},
		{[]int{7}, 2, 0, 0},
		{[]int{2, 3, 1}, 5, 1, 2},
		{[]int{2, 3, 1}, 1, 1, 3},
		{[]int{2, 3, 1}, 2, 1, 2},
		{[]int{2, 3, 1}, 4, 1, 6},
		{[]int{2, 3, 1}, 3, 5, 6},
		{[]int{2, 3, 1}, 7, 1, 1}, // it always comes true
		{[]int{2, 3, 1}, 0, 0, 1}, // it never comes true
		{[]int{3, 0}, 2, 0, 1},    // of a world without weight
		{[]int{3, 0}, 1, 1, 1},
		{[]int{0, 5, 0, 10}, 5, 0, 1},
		{[]int{0, 5, 0, 10}, 10, 1, 1},
		{[]int{0, 5, 0, 10}, 3, 1, 3},
		{[]int{0, 5, 0, 10}, 12, 2, 3},
		{[]int{21, 14, 35, 7}, 6, 7, 11}, // MaxWorlds worlds
		{[]int{21, 14, 35, 7}, 9, 4, 11},
		{[]int{1000000, 1000000, 1000000, 1000000}, 11, 3, 4}, // the greatest weights
		{[]int{1000000, 999999}, 1, 1000000, 1999999},
		{[]int{1000000, 1000000, 1000000, 999999}, 7, 1000000, 1333333},
		{[]int{1000000, 1000000, 1000000, 999997}, 7, 3000000, 3999997},
		{[]int{1000000, 1}, 2, 1, 1000001},
		{[]int{1000000, 1000000, 1000000, 1000001}, 1, 0, 0}, // no weights
		{[]int{0, 0}, 0, 0, 0},
		{[]int{0, 0}, 3, 0, 0},
		{[]int{-2, 3}, 2, 0, 0},
		{[]int{3, -2}, 1, 0, 0},
		{[]int{1, 1, 1, 1, 1}, 1, 0, 0},
		{[]int{}, 0, 0, 0}, // no worlds
		{nil, 0, 0, 0},
		{nil, 1, 0, 0},
		{[]int{2, 3, 1}, 8, 0, 0}, // no events
		{[]int{2, 3, 1}, 13, 0, 0},
		{[]int{2, 3, 1}, -1, 0, 0},
		{[]int{2, 3, 1}, math.MinInt, 0, 0},
		{[]int{2, 3, 1}, math.MaxInt, 0, 0},
		{[]int{math.MaxInt, 1}, 1, 0, 0},
		{[]int{1, math.MinInt}, 1, 0, 0},
	} {
		checkBelieved(t, c.w, c.event, c.over, c.under)
	}
}

func TestPromise79BeliefsOfAnEventAndItsOtherAreAll(t *testing.T) {
	nothing, between, reduced := 0, 0, 0
	eachWeights(func(w []int) {
		worlds := len(w)
		least := impl.ReducedWeights(w)
		for event := range countOfEvents[worlds] {
			over, under := believed(w, event)
			checkBelieved(t, w, event, over, under)
			checkBelieved(t, least, event, over, under)
			// Both fractions are in least terms and together 1: so they have the same second number.
			checkBelieved(t, w, impl.NotEvent(worlds, event), under-over, under)
			switch {
			case over == 0:
				nothing++
			case over < under:
				between++
			}
			if under < onEvent(least, 15) {
				reduced++
			}
		}
		checkBelieved(t, w, countOfEvents[worlds]-1, 1, 1)
		checkBelieved(t, w, 0, 0, 1)
	})
	if nothing < 10000 || between < 10000 || reduced < 10000 {
		t.Errorf("%d events have nothing, %d a part, and %d fractions are reduced further than the weights", nothing, between, reduced)
	}
}

// TestWhatIsBelievedByMeasuresIsTheirPrice: as weights a measure believes of each event its price given all worlds.
func TestWhatIsBelievedByMeasuresIsTheirPrice(t *testing.T) {
	eachMeasure(func(m []int) {
		for event := range countOfEvents[len(m)] {
			over, under, _ := impl.GivenBy(m, event, countOfEvents[len(m)]-1)
			checkBelieved(t, m, event, over, under)
		}
	})
}

func TestNothingIsBelievedOfOthers(t *testing.T) {
	for _, bad := range noWeights() {
		for _, event := range eventNumbers() {
			checkBelieved(t, bad, event, 0, 0)
		}
	}
	for worlds := 1; worlds <= impl.MaxWorlds; worlds++ {
		for _, w := range someWeights[worlds] {
			for _, event := range eventNumbers() {
				if !isEvent(worlds, event) {
					checkBelieved(t, w, event, 0, 0)
				}
			}
		}
	}
}

// onlyOn returns the evidence that is 1 in the worlds of an event, and 0 in all others.
func onlyOn(worlds int, event int) []int {
	row := make([]int, worlds)
	for world, in := range setOf(worlds, event) {
		if in {
			row[world] = 1
		}
	}
	return row
}

func TestPromise80ToLearnAnEventIsToCutTheOthersOff(t *testing.T) {
	told, none := 0, 0
	eachMeasure(func(m []int) {
		for event := range countOfEvents[len(m)] {
			row := onlyOn(len(m), event)
			left, ok := impl.AfterEvent(m, event)
			if ok != (onEvent(m, event) > 0) {
				t.Fatalf("AfterEvent(%v, %d) = %v, %t", m, event, left, ok)
			}
			if !ok {
				checkLearned(t, m, row, nil)
				none++
				continue
			}
			checkLearned(t, m, row, left)
			learned, _ := impl.LearnedFrom(m, row)
			for a := range countOfEvents[len(m)] {
				over, under, _ := impl.GivenBy(m, a, event)
				checkBelieved(t, learned, a, over, under)
			}
			told++
		}
	})
	if told < 10000 || none < 1000 {
		t.Errorf("%d events are learned, and %d have no grains", told, none)
	}
}

func TestLearnedWeightsAreNewMemory(t *testing.T) {
	room := []int{9, 9, 9, 9}
	for worlds := 1; worlds <= impl.MaxWorlds; worlds++ {
		one := slices.Repeat([]int{1}, worlds)
		// The first of these weights are reduced already, and also then a result is a copy.
		for _, w := range [][]int{one, []int{7, 11, 13, 0}[:worlds], []int{60, 84, 72, 96}[:worlds], []int{1, 0, 0, 0}[:worlds], []int{0, 0, 0, 1}[4-worlds:]} {
			checkNewMemory(t, append(slices.Clone(w), room...), worlds, impl.ReducedWeights)
			for _, row := range [][]int{one, slices.Repeat([]int{9}, worlds), []int{5, 7, 0, 8}[:worlds]} {
				if learnedOnce(w, row) == nil {
					continue
				}
				checkNewMemory(t, append(slices.Clone(w), room...), worlds, func(w []int) []int {
					learned, _ := impl.LearnedFrom(w, row)
					return learned
				})
				checkNewMemory(t, append(slices.Clone(row), room...), worlds, func(row []int) []int {
					learned, _ := impl.LearnedFrom(w, row)
					return learned
				})
				for count := range 5 {
					checkNewMemory(t, append(slices.Clone(w), room...), worlds, func(w []int) []int {
						learned, _ := impl.LearnedAll(w, slices.Repeat([][]int{row}, count))
						return learned
					})
					for at := range count {
						checkNewMemory(t, append(slices.Clone(row), room...), worlds, func(row []int) []int {
							rows := slices.Repeat([][]int{one}, count)
							rows[at] = row
							learned, _ := impl.LearnedAll(w, rows)
							return learned
						})
					}
				}
			}
		}
	}
	// One row may be the weights as well as the evidence.
	checkNewMemory(t, []int{1, 3, 2, 9, 9, 9, 9}, 3, func(row []int) []int {
		learned, _ := impl.LearnedFrom(row, row)
		return learned
	})
	checkNewMemory(t, []int{1, 3, 2, 9, 9, 9, 9}, 3, func(row []int) []int {
		learned, _ := impl.LearnedAll(row, [][]int{row, row})
		return learned
	})
}

// TestLearningOnlyReads: no function of the chapter writes to weights, to rows of evidence, to their list, or to the room behind them, also not for calls that have no result.
func TestLearningOnlyReads(t *testing.T) {
	rows := [][]int{
		{1, 1, 1, 1, 1, 9},
		{60, 84, 72, 96, 0, 9},
		{6, 0, 9, 3, 1, 9},
		{0, 0, 0, 0, 0, 9},
		{500001, 1000000, 101, 2, 0, 9},
		{-1, 2, 10, 1000001, 0, 9},
		{0, 5, 7, 0, 2, 9},
		{math.MaxInt, math.MaxInt, 38, 0, math.MinInt, 9},
	}
	room := cloneRows(rows)
	for length := range 7 {
		list := make([][]int, len(room))
		for at, row := range room {
			list[at] = row[:length]
		}
		for at, w := range list {
			impl.WeightsOk(w)
			impl.ReducedWeights(w)
			for event := -1; event <= 16; event++ {
				impl.BelievedOf(w, event)
			}
			for worlds := -1; worlds <= 6; worlds++ {
				impl.EvidenceOk(worlds, w)
			}
			for _, row := range list {
				impl.LearnedFrom(w, row)
				impl.LearnedAll(w, [][]int{list[0], row, list[2]})
			}
			for count := range len(list) + 1 {
				impl.LearnedAll(w, list[:count])
				impl.LearnedAll(w, list[min(at, count):count])
			}
		}
		// The list of rows still has the rows themselves, in their order.
		for at, row := range room {
			if len(list[at]) != length || length > 0 && &list[at][0] != &row[0] {
				t.Fatalf("the rows at %d were written to: %v", at, list)
			}
		}
	}
	if !slices.EqualFunc(room, rows, slices.Equal) {
		t.Errorf("%v was written to: %v", rows, room)
	}
}
