package tests

import (
	"math"
	"slices"
	"sync"
	"testing"

	"loop.example/fairbooks/impl"
)

// badGrains has numbers that are no grains of an event: the first ones past the bounds, and others up to the least and the greatest integers.
var badGrains = []int{math.MinInt, math.MinInt + 1, math.MinInt32, -37, -36, -2, -1, 37, 38, 72, 1000, math.MaxInt32, 1 << 32, 1<<32 + 1, math.MaxInt - 1, math.MaxInt}

// apartPairs has, by the number of worlds, all pairs of events that never come true together, in their order.
var apartPairs = map[int][][2]int{1: pairsApart(1), 2: pairsApart(2), 3: pairsApart(3), 4: pairsApart(4)}

// pairsApart tells by sets which events never come true together.
func pairsApart(worlds int) [][2]int {
	var list [][2]int
	for a := range countOfEvents[worlds] {
		for b := range countOfEvents[worlds] {
			both, other := 0, setOf(worlds, b)
			for world, in := range setOf(worlds, a) {
				if in && other[world] {
					both++
				}
			}
			if both == 0 {
				list = append(list, [2]int{a, b})
			}
		}
	}
	return list
}

// isTable tells by counting what TableOk has to report.
func isTable(worlds int, table []int) bool {
	for _, grains := range table {
		if grains < 0 || grains > 36 {
			return false
		}
	}
	return countOfEvents[worlds] > 0 && len(table) == countOfEvents[worlds]
}

// gathered returns, for each event, the grains of a row on its worlds.
func gathered(row []int) []int {
	table := make([]int, countOfEvents[len(row)])
	for event := range table {
		table[event] = onEvent(row, event)
	}
	return table
}

// alone returns the grains that a table has for each world alone.
func alone(worlds int, table []int) []int {
	row := make([]int, worlds)
	for world, event := range []int{1, 2, 4, 8}[:worlds] {
		row[world] = table[event]
	}
	return row
}

// isAdditive tells without faults what AdditiveOk has to report of a table: whether its worlds alone are a measure, and all else is gathered from them.
func isAdditive(worlds int, table []int) bool {
	row := alone(worlds, table)
	return isMeasure(row) && slices.Equal(gathered(row), table)
}

// firstFault tells what FirstFault has to return for a table. The event that one of two events comes true is the sum of both, as these have no world in common.
func firstFault(worlds int, table []int) (int, int, bool) {
	for _, pair := range apartPairs[worlds] {
		a, b := pair[0], pair[1]
		if table[a+b]-table[a] != table[b] {
			return a, b, true
		}
	}
	return -1, -1, false
}

// againstTable tells what BetsAgainst has to return for a table.
func againstTable(worlds int, table []int) []impl.Bet {
	a, b, faulty := firstFault(worlds, table)
	last := len(table) - 1
	switch {
	case faulty && table[a]+table[b] > table[a+b]:
		return []impl.Bet{{Event: a, Price: table[a], Stake: 1}, {Event: b, Price: table[b], Stake: 1}, {Event: a + b, Price: table[a+b], Stake: -1}}
	case faulty:
		return []impl.Bet{{Event: a, Price: table[a], Stake: -1}, {Event: b, Price: table[b], Stake: -1}, {Event: a + b, Price: table[a+b], Stake: 1}}
	case table[last] != 36:
		return []impl.Bet{{Event: last, Price: table[last], Stake: -1}}
	}
	return nil
}

// taken tells by the bets themselves what they bring in a world: for each the stake many times all grains, if the event comes true, less the stake many times the price that was paid.
func taken(bets []impl.Bet, world int) int {
	sum := 0
	for _, bet := range bets {
		sum -= bet.Price * bet.Stake
		if setOf(4, bet.Event)[world] {
			sum += 36 * bet.Stake
		}
	}
	return sum
}

// offByOne returns all tables that differ from a table by one grain in one event.
func offByOne(table []int) [][]int {
	var list [][]int
	for event := range table {
		for _, off := range []int{-1, 1} {
			other := slices.Clone(table)
			other[event] += off
			if other[event] >= 0 && other[event] <= 36 {
				list = append(list, other)
			}
		}
	}
	return list
}

// drawTable draws a table with grains of at most so many, and of a part of the events just those that follow from the others: each event that has one of the first worlds, of which there are so many, has what that world and the rest of it have together.
func drawTable(draw func(below int) int, worlds int, most int, first int) []int {
	table := make([]int, countOfEvents[worlds])
	for event := 1; event < len(table); event++ {
		table[event] = draw(most + 1)
		for _, one := range []int{1, 2, 4, 8}[:first] {
			if event&one != 0 && event != one {
				table[event] = min(36, table[one]+table[event-one])
				break
			}
		}
	}
	return table
}

// testedTables has, by the number of worlds, tables of all kinds.
var testedTables = sync.OnceValue(func() map[int][][]int {
	lists := map[int][][]int{}
	for worlds := 1; worlds <= 4; worlds++ {
		lists[worlds] = append(gatheredTables(worlds), otherTables(worlds)...)
	}
	return lists
})

// gatheredTables returns tables that are gathered from rows with all grains or fewer, and such that are off by one grain in one event. Of rows with all grains more are taken than of those with fewer.
func gatheredTables(worlds int) [][]int {
	var list [][]int
	for grains := range 37 {
		rows := laidOut(worlds, grains)
		step := 1 + len(rows)/10
		if grains == 36 {
			step = 1 + len(rows)/100
		}
		for i, row := range rows {
			if i%step == 0 || i == len(rows)-1 {
				list = append(list, gathered(row))
				list = append(list, offByOne(gathered(row))...)
			}
		}
	}
	return list
}

// otherTables returns tables that are mostly no measure's: all of one world, those of few numbers of grains, and drawn ones.
func otherTables(worlds int) [][]int {
	var list [][]int
	switch worlds {
	case 1:
		for first := range 37 {
			for second := range 37 {
				list = append(list, []int{first, second})
			}
		}
	case 2:
		list = rowsOf(4, []int{0, 1, 12, 18, 24, 35, 36})
	case 3:
		list = rowsOf(8, []int{0, 18, 36})
	}
	draw := drawer(uint64(70 + worlds))
	for _, most := range []int{1, 2, 9, 36} {
		for first := range worlds {
			for range 100 {
				table := drawTable(draw, worlds, most, first)
				list = append(list, slices.Clone(table))
				table[0] = draw(37)
				list = append(list, slices.Clone(table))
				table[0], table[len(table)-1] = 0, 36
				list = append(list, table)
			}
		}
	}
	return list
}

// eachTable calls a function with the tested tables of 1..4 worlds.
func eachTable(do func(worlds int, table []int)) {
	for worlds := 1; worlds <= 4; worlds++ {
		for _, table := range testedTables()[worlds] {
			do(worlds, table)
		}
	}
}

// eachInvalidTable calls a function with rows that are no tables of so many worlds: by the worlds, by the number of events, or by the grains of an event in any place.
func eachInvalidTable(do func(worlds int, table []int)) {
	for _, worlds := range worldNumbers {
		for _, length := range []int{0, 1, 2, 3, 4, 5, 7, 8, 9, 15, 16, 17, 31, 32, 33, 64, 128, 1000} {
			for _, grains := range []int{0, 9, 36} {
				if row := slices.Repeat([]int{grains}, length); !isTable(worlds, row) {
					do(worlds, row)
				}
			}
		}
	}
	for worlds := 1; worlds <= 4; worlds++ {
		count := countOfEvents[worlds]
		measures := allMeasures[worlds]
		additive := gathered(measures[len(measures)/2])
		do(worlds, additive[:count-1])
		do(worlds, append(slices.Clone(additive), 36))
		do(worlds-1, additive)
		do(worlds+1, additive)
		for _, bad := range badGrains {
			do(worlds, slices.Repeat([]int{bad}, count))
			for at := range count {
				for _, row := range [][]int{make([]int, count), slices.Clone(additive), slices.Repeat([]int{36}, count)} {
					row[at] = bad
					do(worlds, row)
				}
			}
		}
	}
	// The sums of two of these leave the integers and come back, as those of an additive table would be.
	do(2, []int{0, math.MaxInt, math.MaxInt, -2})
	do(2, []int{0, math.MinInt, math.MinInt + 36, 36})
	do(2, []int{0, math.MaxInt, math.MinInt + 37, 36})
	do(2, []int{0, -1, 37, 36})
	do(1, []int{-1, 36})
	do(1, []int{0, 37})
}

func TestTablesHaveGrainsForEvents(t *testing.T) {
	check := func(worlds int, table []int) {
		t.Helper()
		if got := impl.TableOk(worlds, table); got != isTable(worlds, table) {
			t.Fatalf("TableOk(%d, %v) = %t", worlds, table, got)
		}
	}
	eachTable(func(_ int, table []int) {
		for _, number := range worldNumbers {
			check(number, table)
		}
	})
	eachInvalidTable(func(worlds int, table []int) {
		check(worlds, table)
		if impl.TableOk(worlds, table) {
			t.Fatalf("TableOk(%d, %v) = true", worlds, table)
		}
	})
	for worlds := 1; worlds <= 4; worlds++ {
		for at := range countOfEvents[worlds] {
			for grains := -40; grains <= 76; grains++ {
				table := make([]int, countOfEvents[worlds])
				table[at] = grains
				check(worlds, table)
			}
		}
	}
}

func TestPromise37NothingForAllEventsIsATable(t *testing.T) {
	for _, worlds := range worldNumbers {
		for length := range 35 {
			if got := impl.TableOk(worlds, make([]int, length)); got != (length > 0 && length == countOfEvents[worlds]) {
				t.Errorf("TableOk(%d, nothing for %d events) = %t", worlds, length, got)
			}
		}
		if impl.TableOk(worlds, nil) {
			t.Errorf("TableOk(%d, nil) = true", worlds)
		}
	}
	eachTable(func(worlds int, table []int) {
		if !impl.TableOk(worlds, table) {
			t.Fatalf("TableOk(%d, %v) = false", worlds, table)
		}
		for _, grains := range []int{0, 36, -1, math.MaxInt} {
			if more := append(slices.Clone(table), grains); impl.TableOk(worlds, more) {
				t.Fatalf("TableOk(%d, %v) = true", worlds, more)
			}
		}
		if fewer := table[:len(table)-1]; impl.TableOk(worlds, fewer) {
			t.Fatalf("TableOk(%d, %v) = true", worlds, fewer)
		}
	})
}

func TestTablesOfSomeMeasures(t *testing.T) {
	for _, c := range []struct {
		m, want []int
	}{
		{[]int{36}, []int{0, 36}},
		{[]int{0, 36}, []int{0, 0, 36, 36}},
		{[]int{12, 24}, []int{0, 12, 24, 36}},
		{[]int{12, 6, 18}, []int{0, 12, 6, 18, 18, 30, 24, 36}},
		{[]int{0, 0, 36}, []int{0, 0, 0, 0, 36, 36, 36, 36}},
		{[]int{1, 2, 4, 29}, []int{0, 1, 2, 3, 4, 5, 6, 7, 29, 30, 31, 32, 33, 34, 35, 36}},
		{[]int{36, 0, 0, 0}, []int{0, 36, 0, 36, 0, 36, 0, 36, 0, 36, 0, 36, 0, 36, 0, 36}},
		{[]int{35}, nil},
		{[]int{37}, nil},
		{[]int{37, -1}, nil},
		{[]int{12, 6, 17}, nil},
		{[]int{12, 6, 19}, nil},
		{[]int{36, 0, 0, 0, 0}, nil},
		{[]int{0, 0, 0, 0}, nil},
		{[]int{}, nil},
		{nil, nil},
		{[]int{math.MaxInt, math.MaxInt, 38}, nil},
		{[]int{math.MinInt, math.MinInt, 36}, nil},
	} {
		if got := impl.TableOf(c.m); !slices.Equal(got, c.want) {
			t.Errorf("TableOf(%v) = %v, not %v", c.m, got, c.want)
		}
	}
}

func TestPromise38TablesOfMeasuresAreAdditive(t *testing.T) {
	for worlds := 1; worlds <= impl.MaxWorlds; worlds++ {
		for _, m := range allMeasures[worlds] {
			table := impl.TableOf(m)
			if !slices.Equal(table, gathered(m)) || !impl.TableOk(worlds, table) || !impl.AdditiveOk(worlds, table) {
				t.Fatalf("TableOf(%v) = %v, which is no additive table", m, table)
			}
			if got, ok := impl.MeasureOf(worlds, table); !ok || !slices.Equal(got, m) {
				t.Fatalf("MeasureOf the table of %v is %v, %t", m, got, ok)
			}
			for event, grains := range table {
				if grains != impl.GrainsOn(m, event) {
					t.Fatalf("TableOf(%v) = %v: on %d there are %d", m, table, event, impl.GrainsOn(m, event))
				}
			}
		}
	}
	for _, bad := range badMeasures() {
		if table := impl.TableOf(bad); len(table) != 0 {
			t.Fatalf("TableOf(%v) = %v", bad, table)
		}
	}
}

func TestFaultsOfSomeTables(t *testing.T) {
	for _, c := range []struct {
		worlds int
		table  []int
		a, b   int
	}{
		{1, []int{0, 36}, -1, -1},
		{1, []int{0, 30}, -1, -1}, // too few for all worlds, but no fault
		{1, []int{0, 0}, -1, -1},
		{1, []int{1, 36}, 0, 0},
		{1, []int{36, 36}, 0, 0},
		{1, []int{37, 36}, -1, -1}, // no table
		{1, []int{1, 37}, -1, -1},
		{1, []int{1}, -1, -1},
		{1, []int{1, 36, 0}, -1, -1},
		{2, []int{1, 36}, -1, -1},
		{2, []int{0, 12, 24, 36}, -1, -1},
		{2, []int{0, 12, 23, 36}, 1, 2},
		{2, []int{0, 12, 24, 35}, 1, 2},
		{2, []int{0, 36, 36, 36}, 1, 2},
		{2, []int{2, 12, 24, 36}, 0, 0},
		{3, []int{0, 12, 6, 20, 18, 30, 24, 36}, 1, 2},
		{3, []int{0, 12, 6, 18, 18, 31, 24, 36}, 1, 4},
		{3, []int{0, 12, 6, 18, 18, 30, 25, 36}, 1, 6},
		{3, []int{0, 12, 6, 18, 18, 30, 25, 37}, -1, -1},
		{3, []int{0, 12, 6, 18, 18, 30, 24, 35}, 1, 6},
		{3, []int{0, 6, 6, 12, 6, 12, 18, 24}, 2, 4}, // world 0 goes well with all others
		{3, []int{0, 6, 6, 12, 6, 12, 6, 12}, 2, 4},
		{3, []int{0, 0, 0, 0, 0, 0, 0, 0}, -1, -1},
		{4, make([]int, 16), -1, -1},
		{4, gathered([]int{9, 9, 9, 9}), -1, -1},
		{4, gathered([]int{9, 0, 9, 9}), -1, -1},
		{4, []int{0, 1, 1, 2, 1, 2, 2, 3, 1, 2, 2, 3, 3, 4, 4, 5}, 4, 8},
		{4, []int{0, 1, 1, 2, 1, 2, 2, 3, 1, 2, 2, 3, 1, 2, 2, 3}, 4, 8},
		{4, []int{0, 1, 1, 2, 1, 2, 2, 3, 1, 2, 2, 3, 2, 3, 4, 5}, 2, 12},
		{4, []int{0, 1, 1, 2, 1, 2, 2, 3, 1, 2, 2, 3, 2, 3, 3, 5}, 1, 14},
		{0, []int{1}, -1, -1},
		{5, slices.Repeat([]int{1}, 32), -1, -1},
	} {
		a, b, faulty := impl.FirstFault(c.worlds, c.table)
		if a != c.a || b != c.b || faulty != (c.a != -1) {
			t.Errorf("FirstFault(%d, %v) = %d, %d, %t", c.worlds, c.table, a, b, faulty)
		}
	}
}

func TestPromise39FaultsAreFound(t *testing.T) {
	more, fewer, sound := map[[3]int]int{}, map[[3]int]int{}, map[int]int{}
	eachTable(func(worlds int, table []int) {
		a, b, faulty := impl.FirstFault(worlds, table)
		if wantA, wantB, want := firstFault(worlds, table); a != wantA || b != wantB || faulty != want {
			t.Fatalf("FirstFault(%d, %v) = %d, %d, %t, not %d, %d, %t", worlds, table, a, b, faulty, wantA, wantB, want)
		}
		if !faulty {
			sound[worlds]++
			return
		}
		if !impl.ApartOk(worlds, a, b) || !impl.ApartOk(worlds, b, a) || a > b {
			t.Fatalf("FirstFault(%d, %v) = %d, %d, which are not apart, or not in their order", worlds, table, a, b)
		}
		together := table[a] + table[b]
		switch {
		case together > table[a|b]:
			more[[3]int{worlds, a, b}]++
		case together < table[b|a]:
			fewer[[3]int{worlds, a, b}]++
		default:
			t.Fatalf("FirstFault(%d, %v) = %d, %d, which have as many as both together", worlds, table, a, b)
		}
	})
	for worlds := 1; worlds <= 4; worlds++ {
		if sound[worlds] < 10 {
			t.Errorf("%d tables of %d worlds have no fault", sound[worlds], worlds)
		}
		// For any events that may be first ones there are tables, with too many grains and with too few: the first event of a first fault never has two worlds, as one of these alone would be an earlier one.
		for _, pair := range apartPairs[worlds] {
			a, b := pair[0], pair[1]
			first := a == 0 && b == 0 || a < b && slices.Contains([]int{1, 2, 4}, a) && b%(2*a) == 0
			key := [3]int{worlds, a, b}
			if got := more[key] > 0 && (fewer[key] > 0 || a == 0); got != first {
				t.Errorf("%d tables of %d worlds have too many for %d and %d, and %d too few", more[key], worlds, a, b, fewer[key])
			}
		}
	}
	eachInvalidTable(func(worlds int, table []int) {
		if a, b, faulty := impl.FirstFault(worlds, table); a != -1 || b != -1 || faulty {
			t.Fatalf("FirstFault(%d, %v) = %d, %d, %t", worlds, table, a, b, faulty)
		}
	})
}

func TestPromise40ATableIsSafeJustByAMeasure(t *testing.T) {
	additive, short, others := 0, 0, 0
	eachTable(func(worlds int, table []int) {
		got := impl.AdditiveOk(worlds, table)
		if got != isAdditive(worlds, table) || got != slices.Equal(impl.TableOf(alone(worlds, table)), table) {
			t.Fatalf("AdditiveOk(%d, %v) = %t", worlds, table, got)
		}
		bets, ok := impl.BetsAgainst(worlds, table)
		if got == ok || got == (len(bets) > 0) {
			t.Fatalf("AdditiveOk(%d, %v) = %t, but against it are %v, %t", worlds, table, got, bets, ok)
		}
		_, _, faulty := impl.FirstFault(worlds, table)
		if got != (!faulty && table[len(table)-1] == 36) {
			t.Fatalf("AdditiveOk(%d, %v) = %t, with a fault: %t", worlds, table, got, faulty)
		}
		switch {
		case got:
			additive++
		case !faulty:
			short++
		default:
			others++
		}
	})
	if additive < 100 || short < 100 || others < 1000 {
		t.Errorf("%d tables are additive, %d have too few for all worlds, and %d have faults", additive, short, others)
	}
	eachInvalidTable(func(worlds int, table []int) {
		if impl.AdditiveOk(worlds, table) {
			t.Fatalf("AdditiveOk(%d, %v) = true", worlds, table)
		}
	})
}

// TestTablesOffByOneGrain: with one grain more or fewer in one event a table of a measure is no measure's any more, whichever event it is.
func TestTablesOffByOneGrain(t *testing.T) {
	for worlds := 1; worlds <= impl.MaxWorlds; worlds++ {
		for i, m := range allMeasures[worlds] {
			if worlds == 4 && i%29 != 0 {
				continue
			}
			for _, table := range offByOne(gathered(m)) {
				got, ok := impl.MeasureOf(worlds, table)
				if impl.AdditiveOk(worlds, table) || ok || len(got) != 0 {
					t.Fatalf("%v, off by one grain from the table of %v, is that of %v", table, m, got)
				}
				if bets, ok := impl.BetsAgainst(worlds, table); !ok || len(bets) == 0 {
					t.Fatalf("against %v, off by one grain from the table of %v, are %v, %t", table, m, bets, ok)
				}
			}
		}
	}
}

func TestPromise41MeasuresTellTablesAndTablesMeasures(t *testing.T) {
	eachTable(func(worlds int, table []int) {
		m, ok := impl.MeasureOf(worlds, table)
		if ok != isAdditive(worlds, table) || ok != impl.AdditiveOk(worlds, table) || !ok && len(m) != 0 {
			t.Fatalf("MeasureOf(%d, %v) = %v, %t", worlds, table, m, ok)
		}
		if ok && (!slices.Equal(m, alone(worlds, table)) || !impl.MeasureOk(m) || !slices.Equal(impl.TableOf(m), table)) {
			t.Fatalf("MeasureOf(%d, %v) = %v, whose table is %v", worlds, table, m, impl.TableOf(m))
		}
	})
	for _, c := range []struct {
		worlds int
		table  []int
		want   []int
	}{
		{1, []int{0, 36}, []int{36}},
		{1, []int{0, 35}, nil},
		{1, []int{1, 36}, nil},
		{2, []int{0, 36, 0, 36}, []int{36, 0}},
		{2, []int{0, 12, 24, 36}, []int{12, 24}},
		{2, []int{0, 24, 24, 36}, nil},
		{2, []int{0, 12, 12, 24}, nil},
		{3, []int{0, 12, 6, 18, 18, 30, 24, 36}, []int{12, 6, 18}},
		{4, []int{0, 1, 2, 3, 4, 5, 6, 7, 29, 30, 31, 32, 33, 34, 35, 36}, []int{1, 2, 4, 29}},
		{4, []int{0, 1, 2, 3, 4, 5, 6, 7, 29, 30, 31, 32, 33, 34, 36, 36}, nil},
	} {
		if m, ok := impl.MeasureOf(c.worlds, c.table); ok != (c.want != nil) || !slices.Equal(m, c.want) {
			t.Errorf("MeasureOf(%d, %v) = %v, %t", c.worlds, c.table, m, ok)
		}
	}
	eachInvalidTable(func(worlds int, table []int) {
		if m, ok := impl.MeasureOf(worlds, table); ok || len(m) != 0 {
			t.Fatalf("MeasureOf(%d, %v) = %v, %t", worlds, table, m, ok)
		}
	})
}

// checkTaken tests what BringsIn returns for bets in a world.
func checkTaken(t *testing.T, bets []impl.Bet, world int, want int, wantOk bool) {
	t.Helper()
	if got, ok := impl.BringsIn(bets, world); got != want || ok != wantOk {
		t.Fatalf("BringsIn(%v, %d) = %d, %t, not %d, %t", bets, world, got, ok, want, wantOk)
	}
}

func TestWhatSomeBetsBring(t *testing.T) {
	one := impl.Bet{Event: 1, Price: 12, Stake: 2}
	other := impl.Bet{Event: 14, Price: 24, Stake: -2}
	for _, c := range []struct {
		bets []impl.Bet
		want [4]int
	}{
		{nil, [4]int{0, 0, 0, 0}},
		{[]impl.Bet{}, [4]int{0, 0, 0, 0}},
		{[]impl.Bet{{}}, [4]int{0, 0, 0, 0}},
		{[]impl.Bet{one}, [4]int{48, -24, -24, -24}},
		{[]impl.Bet{other}, [4]int{48, -24, -24, -24}}, // the other side of the other bet
		{[]impl.Bet{one, one}, [4]int{96, -48, -48, -48}},
		{[]impl.Bet{one, one, one, one}, [4]int{192, -96, -96, -96}},
		{[]impl.Bet{one, {Event: 1, Price: 12, Stake: -2}}, [4]int{0, 0, 0, 0}},
		{[]impl.Bet{{Event: 1, Price: 12}}, [4]int{0, 0, 0, 0}},
		{[]impl.Bet{{Event: 10, Price: 0, Stake: 9}}, [4]int{0, 324, 0, 324}},
		{[]impl.Bet{{Event: 10, Price: 0, Stake: -9}}, [4]int{0, -324, 0, -324}},
		{[]impl.Bet{{Event: 10, Price: 36, Stake: 9}}, [4]int{-324, 0, -324, 0}},
		{[]impl.Bet{{Event: 10, Price: 36, Stake: -9}}, [4]int{324, 0, 324, 0}},
		{[]impl.Bet{{Event: 0, Price: 36, Stake: 9}}, [4]int{-324, -324, -324, -324}},
		{[]impl.Bet{{Event: 0, Price: 1, Stake: -1}}, [4]int{1, 1, 1, 1}},
		{[]impl.Bet{{Event: 15, Price: 36, Stake: 9}}, [4]int{0, 0, 0, 0}},
		{[]impl.Bet{{Event: 15, Price: 30, Stake: -1}}, [4]int{-6, -6, -6, -6}},
		{[]impl.Bet{{Event: 1, Price: 12, Stake: -1}, {Event: 2, Price: 6, Stake: -1}, {Event: 3, Price: 20, Stake: 1}}, [4]int{-2, -2, -2, -2}},
	} {
		for world, want := range c.want {
			checkTaken(t, c.bets, world, want, true)
		}
	}
	// There may be any number of bets.
	for _, count := range []int{16, 17, 100, 100000} {
		bets := slices.Repeat([]impl.Bet{{Event: 15, Price: 0, Stake: 9}}, count)
		checkTaken(t, bets, 3, 324*count, true)
		bets[count-1].Stake = 10
		checkTaken(t, bets, 3, 0, false)
	}
}

// drawBets draws so many bets.
func drawBets(draw func(below int) int, count int) []impl.Bet {
	bets := make([]impl.Bet, count)
	for i := range bets {
		bets[i] = impl.Bet{Event: draw(16), Price: draw(37), Stake: draw(19) - 9}
	}
	return bets
}

func TestPromise42BetsBringWhatTheyBringOneByOne(t *testing.T) {
	for event := range 16 {
		for price := 0; price <= 36; price++ {
			for _, stake := range allStakes() {
				bets := []impl.Bet{{Event: event, Price: price, Stake: stake}}
				for world := range 4 {
					checkTaken(t, bets, world, taken(bets, world), true)
				}
			}
		}
	}
	draw := drawer(42)
	for count := range 12 {
		for range 200 {
			bets := drawBets(draw, count)
			if count > 1 && draw(3) == 0 {
				bets[count-1] = bets[draw(count-1)] // the same bet twice
			}
			others := slices.Clone(bets)
			for i := range others {
				others[i].Stake = -others[i].Stake
			}
			for world := range 4 {
				all, ok := impl.BringsIn(bets, world)
				if !ok || all != taken(bets, world) {
					t.Fatalf("BringsIn(%v, %d) = %d, %t", bets, world, all, ok)
				}
				checkTaken(t, others, world, -all, true)
				if count > 0 {
					last, _ := impl.BringsIn(bets[count-1:], world)
					checkTaken(t, bets[:count-1], world, all-last, true)
				}
			}
		}
	}
}

// badBets returns bets that are none, by the event, the price or the stake, which are else good ones that bring something.
func badBets() []impl.Bet {
	var list []impl.Bet
	for _, good := range []impl.Bet{{}, {Event: 1, Price: 12, Stake: 2}, {Event: 15, Price: 36, Stake: -9}} {
		for _, event := range eventNumbers() {
			if !isEvent(4, event) {
				list = append(list, impl.Bet{Event: event, Price: good.Price, Stake: good.Stake})
			}
		}
		for _, price := range badGrains {
			list = append(list, impl.Bet{Event: good.Event, Price: price, Stake: good.Stake})
		}
		for _, stake := range badStakes {
			list = append(list, impl.Bet{Event: good.Event, Price: good.Price, Stake: stake})
		}
	}
	for _, number := range []int{math.MinInt, math.MaxInt} {
		list = append(list, impl.Bet{Event: number, Price: number, Stake: number})
	}
	return list
}

func TestOtherBetsBringNothing(t *testing.T) {
	good := []impl.Bet{{Event: 1, Price: 12, Stake: 2}, {Event: 15, Price: 3, Stake: -9}}
	for world := range 4 {
		for _, bad := range badBets() {
			for count := 1; count <= 4; count++ {
				for at := range count {
					bets := slices.Repeat(good, 2)[:count]
					bets[at] = bad
					checkTaken(t, bets, world, 0, false)
				}
			}
		}
	}
	for _, world := range []int{math.MinInt, math.MinInt + 1, math.MinInt32, -5, -4, -1, 4, 5, 16, 31, 32, 63, 64, math.MaxInt32, 1 << 32, math.MaxInt - 1, math.MaxInt} {
		for count := range 3 {
			checkTaken(t, good[:count], world, 0, false)
		}
		for _, bad := range badBets() {
			checkTaken(t, []impl.Bet{bad}, world, 0, false)
		}
	}
}

func TestBetsAgainstSomeTables(t *testing.T) {
	for _, c := range []struct {
		worlds int
		table  []int
		want   [][3]int // events, prices and stakes
	}{
		{1, []int{0, 36}, nil},
		{1, []int{0, 30}, [][3]int{{1, 30, -1}}},
		{1, []int{0, 0}, [][3]int{{1, 0, -1}}},
		{1, []int{5, 36}, [][3]int{{0, 5, 1}, {0, 5, 1}, {0, 5, -1}}}, // a first fault that is one event twice
		{1, []int{36, 0}, [][3]int{{0, 36, 1}, {0, 36, 1}, {0, 36, -1}}},
		{1, []int{1, 30}, [][3]int{{0, 1, 1}, {0, 1, 1}, {0, 1, -1}}},
		{2, []int{0, 12, 24, 36}, nil},
		{2, []int{0, 12, 23, 36}, [][3]int{{1, 12, -1}, {2, 23, -1}, {3, 36, 1}}},
		{2, []int{0, 12, 25, 36}, [][3]int{{1, 12, 1}, {2, 25, 1}, {3, 36, -1}}},
		{2, []int{0, 12, 23, 35}, [][3]int{{3, 35, -1}}},
		{2, []int{0, 36, 36, 0}, [][3]int{{1, 36, 1}, {2, 36, 1}, {3, 0, -1}}},
		{2, []int{0, 0, 0, 36}, [][3]int{{1, 0, -1}, {2, 0, -1}, {3, 36, 1}}},
		{3, []int{0, 12, 6, 20, 18, 30, 24, 36}, [][3]int{{1, 12, -1}, {2, 6, -1}, {3, 20, 1}}},
		{3, []int{0, 12, 6, 18, 18, 30, 23, 36}, [][3]int{{1, 12, -1}, {6, 23, -1}, {7, 36, 1}}},
		{3, []int{0, 12, 6, 18, 18, 30, 25, 36}, [][3]int{{1, 12, 1}, {6, 25, 1}, {7, 36, -1}}},
		{3, []int{0, 6, 6, 12, 6, 12, 18, 24}, [][3]int{{2, 6, -1}, {4, 6, -1}, {6, 18, 1}}},
		{3, make([]int, 8), [][3]int{{7, 0, -1}}},
		{4, make([]int, 16), [][3]int{{15, 0, -1}}},
		{4, gathered([]int{9, 9, 9, 9}), nil},
		{4, gathered([]int{9, 9, 9, 8}), [][3]int{{15, 35, -1}}},
		{4, []int{0, 1, 1, 2, 1, 2, 2, 3, 1, 2, 2, 3, 1, 2, 2, 3}, [][3]int{{4, 1, 1}, {8, 1, 1}, {12, 1, -1}}},
		{4, slices.Repeat([]int{36}, 16), [][3]int{{0, 36, 1}, {0, 36, 1}, {0, 36, -1}}},
		{0, []int{5}, nil},
		{5, slices.Repeat([]int{5}, 32), nil},
		{2, []int{0, 12}, nil},
		{2, []int{0, 12, 25, 37}, nil},
		{2, []int{0, -1, 24, 36}, nil},
		{2, nil, nil},
	} {
		var want []impl.Bet
		for _, row := range c.want {
			want = append(want, impl.Bet{Event: row[0], Price: row[1], Stake: row[2]})
		}
		if bets, ok := impl.BetsAgainst(c.worlds, c.table); ok != (want != nil) || !slices.Equal(bets, want) {
			t.Errorf("BetsAgainst(%d, %v) = %v, %t", c.worlds, c.table, bets, ok)
		}
	}
}

func TestPromise43ThreeBetsAreEnough(t *testing.T) {
	counts := map[int]int{}
	eachTable(func(worlds int, table []int) {
		bets, ok := impl.BetsAgainst(worlds, table)
		if want := againstTable(worlds, table); ok != (want != nil) || !slices.Equal(bets, want) {
			t.Fatalf("BetsAgainst(%d, %v) = %v, %t, not %v", worlds, table, bets, ok, want)
		}
		counts[len(bets)]++
		if !ok {
			return
		}
		if len(bets) > 3 {
			t.Fatalf("BetsAgainst(%d, %v) = %v, which are more than three", worlds, table, bets)
		}
		for _, bet := range bets {
			if !impl.EventOk(worlds, bet.Event) || bet.Price != table[bet.Event] {
				t.Fatalf("BetsAgainst(%d, %v) = %v: %v is not at the price of the table", worlds, table, bets, bet)
			}
		}
		first, _ := impl.BringsIn(bets, 0)
		if first >= 0 {
			t.Fatalf("BetsAgainst(%d, %v) = %v, which bring %d", worlds, table, bets, first)
		}
		for world := range worlds {
			checkTaken(t, bets, world, first, true)
			if taken(bets, world) != first {
				t.Fatalf("BetsAgainst(%d, %v) = %v, which bring %d in world %d, and %d in world 0", worlds, table, bets, taken(bets, world), world, first)
			}
		}
	})
	if counts[0] < 100 || counts[1] < 100 || counts[3] < 1000 {
		t.Errorf("tables by the number of bets against them: %v", counts)
	}
	eachInvalidTable(func(worlds int, table []int) {
		if bets, ok := impl.BetsAgainst(worlds, table); ok || len(bets) != 0 {
			t.Fatalf("BetsAgainst(%d, %v) = %v, %t", worlds, table, bets, ok)
		}
	})
}

// drawQuotes draws at most so many quotes out of a table, for events for which it has whole sixths of all grains.
func drawQuotes(draw func(below int) int, table []int, quotes int) []impl.Quote {
	var book []impl.Quote
	for range quotes {
		if event := draw(len(table)); table[event]%6 == 0 {
			book = append(book, impl.Quote{Event: event, Price: table[event] / 6})
		}
	}
	return book
}

func TestPromise44QuotesOutOfATableAreFair(t *testing.T) {
	draw, drawn := drawer(44), map[int]int{}
	for worlds := 1; worlds <= impl.MaxWorlds; worlds++ {
		for i := range 300 {
			m := drawSixths(draw, worlds)
			if i%3 == 0 {
				m = drawMeasure(draw, worlds)
			}
			table := impl.TableOf(m)
			if !impl.AdditiveOk(worlds, table) {
				t.Fatalf("the table %v of %v is not additive", table, m)
			}
			book := drawQuotes(draw, table, draw(4))
			if !impl.FitsOk(m, book) || !impl.FairOk(worlds, book) || !impl.SafeOk(worlds, book) {
				t.Fatalf("%v, out of the table of %v, is not fair and safe", book, m)
			}
			drawn[len(book)]++
		}
	}
	for quotes := range 4 {
		if drawn[quotes] < 50 {
			t.Errorf("%d books of %d quotes were drawn", drawn[quotes], quotes)
		}
	}
	// Of tables that are not additive some quotes are not fair: those of the events of a fault, or of all worlds.
	for _, c := range []struct {
		table  []int
		events []int
	}{
		{[]int{0, 12, 18, 36}, []int{1, 2}},
		{[]int{6, 12, 24, 36}, []int{0}},
		{[]int{0, 12, 18, 30}, []int{3}},
	} {
		var book []impl.Quote
		for _, event := range c.events {
			book = append(book, impl.Quote{Event: event, Price: c.table[event] / 6})
		}
		if impl.AdditiveOk(2, c.table) || impl.FairOk(2, book) || impl.SafeOk(2, book) {
			t.Errorf("%v is additive, or %v out of it is fair, or safe", c.table, book)
		}
	}
}

func TestTablesAreNewMemory(t *testing.T) {
	for worlds := 1; worlds <= impl.MaxWorlds; worlds++ {
		for _, m := range [][]int{allMeasures[worlds][0], allMeasures[worlds][waysToLay[worlds]/2]} {
			table := gathered(m)
			checkNewMemory(t, append(slices.Clone(m), 9, 9, 9, 9), worlds, impl.TableOf)
			checkNewMemory(t, append(slices.Clone(table), 9, 9, 9, 9), len(table), func(row []int) []int {
				measure, _ := impl.MeasureOf(worlds, row)
				return measure
			})
			faulty := slices.Clone(table)
			faulty[0] = 1
			short := gathered(slices.Repeat([]int{1}, worlds))
			for _, other := range [][]int{faulty, short} {
				checkNewItems(t, append(other, 9, 9, 9, 9), len(table), impl.Bet{Event: 7, Price: 7, Stake: 7}, func(row []int) []impl.Bet {
					bets, _ := impl.BetsAgainst(worlds, row)
					return bets
				})
			}
		}
	}
}

// TestTablesAreOnlyRead: no function of the chapter writes to a measure, a table or bets, or to the room behind them, also not for calls that have no result.
func TestTablesAreOnlyRead(t *testing.T) {
	for _, numbers := range [][]int{
		append(gathered([]int{12, 24}), 9, 9, 9, 9, 9),
		append(gathered([]int{12, 6, 18}), 9, 9, 9, 9, 9),
		append(gathered([]int{12, 6, 17}), 9, 9, 9, 9, 9),
		append(gathered([]int{9, 9, 9, 9}), 9, 9, 9, 9, 9),
		{36, 0, 0, 0, 0, 9, 9, 9, 9, 9},
		{5, 36, 0, 0, 0, 9, 9, 9, 9, 9},
		{-1, 37, 0, 0, math.MinInt, math.MaxInt, 9, 9, 9, 9},
	} {
		row := slices.Clone(numbers)
		for worlds := range 6 {
			for length := range len(row) + 1 {
				impl.TableOk(worlds, row[:length])
				impl.TableOf(row[:length])
				impl.FirstFault(worlds, row[:length])
				impl.AdditiveOk(worlds, row[:length])
				impl.MeasureOf(worlds, row[:length])
				impl.BetsAgainst(worlds, row[:length])
			}
		}
		if !slices.Equal(row, numbers) {
			t.Errorf("%v was written to: %v", numbers, row)
		}
	}
	before := append(drawBets(drawer(7), 6), impl.Bet{Event: 16, Price: 37, Stake: 10})
	bets := slices.Clone(before)
	for world := -1; world <= 4; world++ {
		for length := range len(bets) + 1 {
			impl.BringsIn(bets[:length], world)
		}
	}
	if !slices.Equal(bets, before) {
		t.Errorf("%v was written to: %v", before, bets)
	}
}
