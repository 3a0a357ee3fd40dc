package tests

import (
	"math"
	"slices"
	"testing"

	"loop.example/fairbooks/impl"
)

// prices has all prices, from nothing to the whole.
var prices = []int{0, 1, 2, 3, 4, 5, 6}

// badPrices has numbers that are no prices: the first ones past the bounds, and others up to the least and the greatest integers.
var badPrices = []int{math.MinInt, math.MinInt + 1, math.MinInt32, -36, -7, -6, -2, -1, 7, 8, 12, 36, math.MaxInt32, 1 << 32, 1<<32 + 1, math.MaxInt - 1, math.MaxInt}

// badStakes has numbers that are no stakes: the first ones past the bounds, and others up to the least and the greatest integers.
var badStakes = []int{math.MinInt, math.MinInt + 1, math.MinInt32, -1000, -11, -10, 10, 11, 1000, math.MaxInt32, 1 << 32, 1<<32 + 1, math.MaxInt - 1, math.MaxInt}

// allStakes returns all stakes, in ascending order.
func allStakes() []int {
	var list []int
	for stake := -9; stake < 10; stake++ {
		list = append(list, stake)
	}
	return list
}

// quotesOf returns all quotes of so many worlds.
func quotesOf(worlds int) []impl.Quote {
	var list []impl.Quote
	for event := range countOfEvents[worlds] {
		for _, price := range prices {
			list = append(list, impl.Quote{Event: event, Price: price})
		}
	}
	return list
}

// badQuotes returns quotes that are none of so many worlds, by their events, by their prices, or by both.
func badQuotes(worlds int) []impl.Quote {
	var list []impl.Quote
	for _, event := range eventNumbers() {
		for _, price := range append(slices.Clone(prices), badPrices...) {
			if q := (impl.Quote{Event: event, Price: price}); !isQuote(worlds, q) {
				list = append(list, q)
			}
		}
	}
	return list
}

// isQuote tells by tables what QuoteOk has to report.
func isQuote(worlds int, q impl.Quote) bool {
	return isEvent(worlds, q.Event) && slices.Contains(prices, q.Price)
}

// isBook tells by tables and by counting what BookOk has to report.
func isBook(worlds int, book []impl.Quote) bool {
	quotes := 0
	for _, q := range book {
		if isQuote(worlds, q) {
			quotes++
		}
	}
	return countOfEvents[worlds] > 0 && quotes == len(book) && slices.Contains([]int{0, 1, 2, 3}, quotes)
}

// brought tells by the bet itself what it brings in a world: the stake many times a whole one, if the event comes true, less the stake many times the price that was paid.
func brought(worlds int, q impl.Quote, stake int, world int) int {
	if setOf(worlds, q.Event)[world] {
		return 6*stake - q.Price*stake
	}
	return 0 - q.Price*stake
}

// balance tells by the bets themselves, world by world, what BalanceOf has to return.
func balance(worlds int, book []impl.Quote, stakes []int) []int {
	sums := make([]int, worlds)
	for world := range sums {
		for i, q := range book {
			sums[world] += brought(worlds, q, stakes[i], world)
		}
	}
	return sums
}

// drawBook draws a book of so many quotes.
func drawBook(draw func(below int) int, worlds int, quotes int) []impl.Quote {
	book := make([]impl.Quote, quotes)
	for i := range book {
		book[i] = impl.Quote{Event: draw(countOfEvents[worlds]), Price: draw(7)}
	}
	return book
}

// drawStakes draws so many stakes.
func drawStakes(draw func(below int) int, count int) []int {
	list := make([]int, count)
	for i := range list {
		list[i] = draw(19) - 9
	}
	return list
}

// edgeQuotes returns quotes for events that never, sometimes and always come true, at nothing, at the whole, and between.
func edgeQuotes(worlds int) []impl.Quote {
	var list []impl.Quote
	always := countOfEvents[worlds] - 1
	for _, event := range slices.Compact([]int{0, 1, always}) {
		for _, price := range []int{0, 2, 6} {
			list = append(list, impl.Quote{Event: event, Price: price})
		}
	}
	return list
}

// booksOf returns all books of so many quotes, each one of these.
func booksOf(length int, quotes []impl.Quote) [][]impl.Quote {
	return rowsOf(length, quotes)
}

// someBooks returns books of so many worlds and of all numbers of quotes: those of the quotes at the edges, and drawn ones.
func someBooks(worlds int) [][]impl.Quote {
	var list [][]impl.Quote
	draw := drawer(uint64(30 + worlds))
	for quotes := range 4 {
		list = append(list, booksOf(quotes, edgeQuotes(worlds))...)
		for range 200 {
			list = append(list, drawBook(draw, worlds, quotes))
		}
	}
	return list
}

// someStakes returns rows of so many stakes: nothing, both bounds and what is next to nothing in all places, and drawn ones.
func someStakes(draw func(below int) int, count int) [][]int {
	list := rowsOf(count, []int{-9, 0, 9})
	list = append(list, slices.Repeat([]int{1}, count), slices.Repeat([]int{-1}, count))
	for range 8 {
		list = append(list, drawStakes(draw, count))
	}
	return list
}

// eachBalance calls a function with books of 1..4 worlds and stakes for their quotes.
func eachBalance(do func(worlds int, book []impl.Quote, stakes []int)) {
	draw := drawer(3)
	for worlds := 1; worlds <= 4; worlds++ {
		for _, book := range someBooks(worlds) {
			for _, row := range someStakes(draw, len(book)) {
				do(worlds, book, row)
			}
		}
	}
}

func TestBoundsOfQuotes(t *testing.T) {
	if impl.Whole != 6 || impl.MaxQuotes != 3 || impl.MaxStake != 9 {
		t.Fatalf("Whole = %d, MaxQuotes = %d, MaxStake = %d", impl.Whole, impl.MaxQuotes, impl.MaxStake)
	}
}

func TestQuotesHaveEventsAndPrices(t *testing.T) {
	for _, worlds := range worldNumbers {
		for _, event := range eventNumbers() {
			for _, price := range append(slices.Clone(prices), badPrices...) {
				q := impl.Quote{Event: event, Price: price}
				if got := impl.QuoteOk(worlds, q); got != isQuote(worlds, q) {
					t.Errorf("QuoteOk(%d, %v) = %t", worlds, q, got)
				}
			}
		}
	}
}

func TestPromise13OtherQuotesAreQuotes(t *testing.T) {
	for worlds := 1; worlds <= impl.MaxWorlds; worlds++ {
		for event := range countOfEvents[worlds] {
			for _, price := range prices {
				q := impl.Quote{Event: event, Price: price}
				if !impl.QuoteOk(worlds, q) || !impl.QuoteOk(worlds, impl.OtherQuote(worlds, q)) {
					t.Errorf("%d worlds: %v or its other quote is none", worlds, q)
				}
			}
			for _, price := range []int{0, 6} {
				if !impl.QuoteOk(worlds, impl.Quote{Event: event, Price: price}) {
					t.Errorf("%d worlds: the price %d for %d is no quote", worlds, price, event)
				}
			}
			for _, price := range badPrices {
				if impl.QuoteOk(worlds, impl.Quote{Event: event, Price: price}) {
					t.Errorf("%d worlds: the price %d for %d is a quote", worlds, price, event)
				}
			}
		}
		for _, event := range []int{math.MinInt, -1, countOfEvents[worlds], math.MaxInt} {
			if impl.QuoteOk(worlds, impl.Quote{Event: event}) || impl.QuoteOk(worlds, impl.Quote{Event: event, Price: 6}) {
				t.Errorf("%d worlds: there is a quote for %d", worlds, event)
			}
		}
	}
	for _, worlds := range []int{math.MinInt, -1, 0, 5, math.MaxInt} {
		if impl.QuoteOk(worlds, impl.Quote{}) || impl.QuoteOk(worlds, impl.Quote{Event: 1, Price: 6}) {
			t.Errorf("%d worlds have a quote", worlds)
		}
	}
}

// checkBook tests what BookOk reports of a book.
func checkBook(t *testing.T, worlds int, book []impl.Quote) {
	t.Helper()
	if got := impl.BookOk(worlds, book); got != isBook(worlds, book) {
		t.Fatalf("BookOk(%d, %v) = %t", worlds, book, got)
	}
}

func TestBooksHaveQuotes(t *testing.T) {
	for worlds := 1; worlds <= impl.MaxWorlds; worlds++ {
		for _, book := range someBooks(worlds) {
			for _, number := range worldNumbers {
				checkBook(t, number, book)
			}
		}
		for _, q := range quotesOf(worlds) {
			checkBook(t, worlds, []impl.Quote{q})
			checkBook(t, worlds, []impl.Quote{q, q, q})
			checkBook(t, worlds, []impl.Quote{q, q, q, q})
		}
		for _, bad := range badQuotes(worlds) {
			for quotes := 1; quotes <= 4; quotes++ {
				for at := range quotes {
					book := slices.Repeat([]impl.Quote{{Event: 1, Price: 6}}, quotes)
					book[at] = bad
					checkBook(t, worlds, book)
				}
				checkBook(t, worlds, slices.Repeat([]impl.Quote{bad}, quotes))
			}
		}
	}
}

func TestPromise14NoQuotesAreABook(t *testing.T) {
	for _, worlds := range worldNumbers {
		valid := countOfEvents[worlds] > 0
		if impl.BookOk(worlds, nil) != valid || impl.BookOk(worlds, []impl.Quote{}) != valid || impl.BookOk(worlds, make([]impl.Quote, 0, 9)) != valid {
			t.Errorf("BookOk(%d, nothing) is not %t", worlds, valid)
		}
	}
	for worlds := 1; worlds <= impl.MaxWorlds; worlds++ {
		for _, book := range someBooks(worlds) {
			if !impl.BookOk(worlds, book) {
				t.Fatalf("BookOk(%d, %v) = false", worlds, book)
			}
			if len(book) > 0 && !impl.BookOk(worlds, book[:len(book)-1]) {
				t.Fatalf("%d worlds: %v without its last quote is no book", worlds, book)
			}
		}
		for _, quotes := range []int{4, 5, 64, 65, 1000} {
			if impl.BookOk(worlds, make([]impl.Quote, quotes)) {
				t.Errorf("%d worlds: %d quotes are a book", worlds, quotes)
			}
		}
	}
}

func TestGainsOfSomeBets(t *testing.T) {
	for _, c := range []struct {
		worlds, event, price, stake int
		want                        []int
	}{
		{2, 1, 2, 3, []int{12, -6}},
		{2, 1, 2, -3, []int{-12, 6}},
		{2, 2, 4, -3, []int{12, -6}},
		{2, 1, 2, 0, []int{0, 0}},
		{1, 1, 0, 1, []int{6}},
		{1, 1, 6, 1, []int{0}},
		{1, 0, 0, 1, []int{0}},
		{1, 0, 6, 1, []int{-6}},
		{1, 0, 6, 9, []int{-54}},
		{1, 0, 6, -9, []int{54}},
		{1, 1, 0, 9, []int{54}},
		{1, 1, 0, -9, []int{-54}},
		{4, 10, 2, 1, []int{-2, 4, -2, 4}},
		{4, 12, 3, -1, []int{3, 3, -3, -3}},
		{4, 15, 6, 9, []int{0, 0, 0, 0}},
		{4, 15, 0, 9, []int{54, 54, 54, 54}},
		{4, 15, 5, 9, []int{9, 9, 9, 9}},
		{4, 0, 0, -9, []int{0, 0, 0, 0}},
		{4, 0, 1, -9, []int{9, 9, 9, 9}},
		{4, 8, 6, 9, []int{-54, -54, -54, 0}},
		{4, 1, 0, -9, []int{-54, 0, 0, 0}},
		{3, 5, 1, 7, []int{35, -7, 35}},
		{3, 8, 1, 7, nil},
		{3, -1, 1, 7, nil},
		{3, 5, 7, 7, nil},
		{3, 5, -1, 7, nil},
		{3, 5, 1, 10, nil},
		{3, 5, 1, -10, nil},
		{0, 0, 0, 0, nil},
		{5, 0, 0, 0, nil},
	} {
		if got := impl.GainOf(c.worlds, impl.Quote{Event: c.event, Price: c.price}, c.stake); !slices.Equal(got, c.want) {
			t.Errorf("GainOf(%d, {%d %d}, %d) = %v, not %v", c.worlds, c.event, c.price, c.stake, got, c.want)
		}
	}
}

func TestGainsGoWorldByWorld(t *testing.T) {
	for worlds := 1; worlds <= impl.MaxWorlds; worlds++ {
		for _, q := range quotesOf(worlds) {
			for _, stake := range allStakes() {
				gain := impl.GainOf(worlds, q, stake)
				if len(gain) != worlds || !impl.GambleOk(gain) {
					t.Fatalf("GainOf(%d, %v, %d) = %v, which is no gamble", worlds, q, stake, gain)
				}
				for world, amount := range gain {
					if amount != brought(worlds, q, stake, world) {
						t.Fatalf("GainOf(%d, %v, %d) = %v: world %d", worlds, q, stake, gain, world)
					}
				}
			}
		}
	}
}

func TestGainsOfOthersAreNone(t *testing.T) {
	goodAndBad := append(allStakes(), badStakes...)
	for _, worlds := range worldNumbers {
		for _, bad := range badQuotes(worlds) {
			for _, stake := range goodAndBad {
				if gain := impl.GainOf(worlds, bad, stake); len(gain) != 0 {
					t.Fatalf("GainOf(%d, %v, %d) = %v", worlds, bad, stake, gain)
				}
			}
		}
		for _, q := range quotesOf(worlds) {
			for _, stake := range badStakes {
				if gain := impl.GainOf(worlds, q, stake); len(gain) != 0 {
					t.Fatalf("GainOf(%d, %v, %d) = %v", worlds, q, stake, gain)
				}
			}
		}
	}
}

func TestPromise15ABetIsTheOtherSideOfTheOtherBet(t *testing.T) {
	for worlds := 1; worlds <= impl.MaxWorlds; worlds++ {
		for _, q := range quotesOf(worlds) {
			for _, stake := range allStakes() {
				gain := impl.GainOf(worlds, q, stake)
				if other := impl.GainOf(worlds, impl.OtherQuote(worlds, q), -stake); len(gain) != worlds || !slices.Equal(gain, other) {
					t.Fatalf("%d worlds: %v at %d brings %v, but the other quote at %d %v", worlds, q, stake, gain, -stake, other)
				}
				sum, ok := impl.SumGamble(gain, impl.GainOf(worlds, q, -stake))
				if !ok || !slices.Equal(sum, make([]int, worlds)) {
					t.Fatalf("%d worlds: %v at %d and at %d brings %v, %t", worlds, q, stake, -stake, sum, ok)
				}
			}
		}
		for _, bad := range badQuotes(worlds) {
			if gain := impl.GainOf(worlds, bad, 0); len(gain) != 0 {
				t.Fatalf("GainOf(%d, %v, 0) = %v", worlds, bad, gain)
			}
		}
	}
}

func TestOthersOfSomeQuotes(t *testing.T) {
	for _, c := range []struct {
		worlds  int
		q, want impl.Quote
	}{
		{1, impl.Quote{Event: 0, Price: 0}, impl.Quote{Event: 1, Price: 6}},
		{1, impl.Quote{Event: 1, Price: 6}, impl.Quote{Event: 0, Price: 0}},
		{1, impl.Quote{Event: 1, Price: 0}, impl.Quote{Event: 0, Price: 6}},
		{2, impl.Quote{Event: 1, Price: 2}, impl.Quote{Event: 2, Price: 4}},
		{3, impl.Quote{Event: 5, Price: 3}, impl.Quote{Event: 2, Price: 3}},
		{4, impl.Quote{Event: 0, Price: 6}, impl.Quote{Event: 15, Price: 0}},
		{4, impl.Quote{Event: 10, Price: 1}, impl.Quote{Event: 5, Price: 5}},
		{4, impl.Quote{Event: 16, Price: 1}, impl.Quote{}},
		{4, impl.Quote{Event: 15, Price: 7}, impl.Quote{}},
		{4, impl.Quote{Event: -1, Price: 1}, impl.Quote{}},
		{4, impl.Quote{Event: 1, Price: -1}, impl.Quote{}},
		{0, impl.Quote{}, impl.Quote{}},
		{5, impl.Quote{}, impl.Quote{}},
	} {
		if got := impl.OtherQuote(c.worlds, c.q); got != c.want {
			t.Errorf("OtherQuote(%d, %v) = %v, not %v", c.worlds, c.q, got, c.want)
		}
	}
}

func TestPromise16OtherTwiceItIsAsBefore(t *testing.T) {
	for worlds := 1; worlds <= impl.MaxWorlds; worlds++ {
		for _, q := range quotesOf(worlds) {
			other := impl.OtherQuote(worlds, q)
			if twice := impl.OtherQuote(worlds, other); twice != q {
				t.Errorf("%d worlds: the other one of the other one of %v is %v", worlds, q, twice)
			}
			if q.Price+other.Price != 6 || q.Event+other.Event != countOfEvents[worlds]-1 {
				t.Errorf("%d worlds: the other one of %v is %v", worlds, q, other)
			}
		}
	}
	for _, worlds := range worldNumbers {
		for _, bad := range badQuotes(worlds) {
			if other := impl.OtherQuote(worlds, bad); other != (impl.Quote{}) {
				t.Errorf("OtherQuote(%d, %v) = %v", worlds, bad, other)
			}
		}
	}
}

func TestBalancesOfSomeBooks(t *testing.T) {
	one, two := impl.Quote{Event: 1, Price: 2}, impl.Quote{Event: 2, Price: 3}
	never, always := impl.Quote{Event: 0, Price: 6}, impl.Quote{Event: 15, Price: 0}
	for _, c := range []struct {
		worlds int
		book   []impl.Quote
		stakes []int
		want   []int
	}{
		{1, nil, nil, []int{0}},
		{4, nil, nil, []int{0, 0, 0, 0}},
		{2, []impl.Quote{one, two}, []int{1, 1}, []int{1, 1}},
		{2, []impl.Quote{one, two}, []int{1, -1}, []int{7, -5}},
		{2, []impl.Quote{one, two}, []int{0, 0}, []int{0, 0}},
		{2, []impl.Quote{one, two}, []int{0, 2}, []int{-6, 6}},
		{2, []impl.Quote{one, one}, []int{4, -4}, []int{0, 0}},
		{2, []impl.Quote{one, one, one}, []int{9, 9, 9}, []int{108, -54}},
		{4, []impl.Quote{{Event: 10, Price: 2}, {Event: 12, Price: 3}}, []int{1, -1}, []int{1, 7, -5, 1}},
		{4, []impl.Quote{never, never, never}, []int{9, 9, 9}, []int{-162, -162, -162, -162}},
		{4, []impl.Quote{never, never, never}, []int{-9, -9, -9}, []int{162, 162, 162, 162}},
		{4, []impl.Quote{always, always, always}, []int{9, 9, 9}, []int{162, 162, 162, 162}},
		{4, []impl.Quote{always, never, always}, []int{9, 9, -9}, []int{-54, -54, -54, -54}},
		{2, []impl.Quote{one}, nil, nil},
		{2, nil, []int{0}, nil},
		{2, []impl.Quote{one}, []int{1, 1}, nil},
		{2, []impl.Quote{one}, []int{10}, nil},
		{2, []impl.Quote{one}, []int{-10}, nil},
		{2, []impl.Quote{one, {Event: 4}}, []int{1, 1}, nil},
		{2, []impl.Quote{one, one, one, one}, []int{1, 1, 1, 1}, nil},
		{0, nil, nil, nil},
		{5, nil, nil, nil},
	} {
		got, ok := impl.BalanceOf(c.worlds, c.book, c.stakes)
		if ok != (c.want != nil) || !slices.Equal(got, c.want) {
			t.Errorf("BalanceOf(%d, %v, %v) = %v, %t", c.worlds, c.book, c.stakes, got, ok)
		}
	}
}

func TestBalancesGoWorldByWorld(t *testing.T) {
	check := func(worlds int, book []impl.Quote, stakes []int) {
		got, ok := impl.BalanceOf(worlds, book, stakes)
		if !ok || !slices.Equal(got, balance(worlds, book, stakes)) || !impl.GambleOk(got) {
			t.Fatalf("BalanceOf(%d, %v, %v) = %v, %t", worlds, book, stakes, got, ok)
		}
	}
	eachBalance(check)
	for worlds := 1; worlds <= impl.MaxWorlds; worlds++ {
		for _, q := range quotesOf(worlds) {
			for _, stake := range allStakes() {
				check(worlds, []impl.Quote{q}, []int{stake})
			}
		}
	}
}

// checkNoBalance tests that there is no balance of a book and stakes.
func checkNoBalance(t *testing.T, worlds int, book []impl.Quote, stakes []int) {
	t.Helper()
	if got, ok := impl.BalanceOf(worlds, book, stakes); ok || len(got) != 0 {
		t.Fatalf("BalanceOf(%d, %v, %v) = %v, %t", worlds, book, stakes, got, ok)
	}
}

func TestBalancesOfOtherWorldsAreNone(t *testing.T) {
	for _, worlds := range worldNumbers {
		if countOfEvents[worlds] > 0 {
			continue
		}
		checkNoBalance(t, worlds, nil, nil)
		checkNoBalance(t, worlds, []impl.Quote{}, []int{})
		checkNoBalance(t, worlds, []impl.Quote{{}}, []int{0})
		checkNoBalance(t, worlds, []impl.Quote{{Event: 1, Price: 6}}, []int{1})
		checkNoBalance(t, worlds, nil, []int{1})
	}
}

func TestBalancesOfOtherBooksAreNone(t *testing.T) {
	for worlds := 1; worlds <= impl.MaxWorlds; worlds++ {
		for _, bad := range badQuotes(worlds) {
			for quotes := 1; quotes <= 3; quotes++ {
				for at := range quotes {
					book := slices.Repeat([]impl.Quote{{Event: 1, Price: 2}}, quotes)
					book[at] = bad
					for _, stake := range []int{-1, 0, 1} {
						checkNoBalance(t, worlds, book, slices.Repeat([]int{stake}, quotes))
					}
					checkNoBalance(t, worlds, book, nil)
				}
			}
		}
		for _, quotes := range []int{4, 5, 64} {
			checkNoBalance(t, worlds, make([]impl.Quote, quotes), make([]int, quotes))
			checkNoBalance(t, worlds, make([]impl.Quote, quotes), make([]int, 3))
			checkNoBalance(t, worlds, make([]impl.Quote, quotes), nil)
		}
	}
}

func TestBalancesOfOtherStakesAreNone(t *testing.T) {
	for worlds := 1; worlds <= impl.MaxWorlds; worlds++ {
		for _, book := range append(booksOf(1, quotesOf(worlds)), someBooks(worlds)...) {
			for count := range 6 {
				if count != len(book) {
					checkNoBalance(t, worlds, book, make([]int, count))
					checkNoBalance(t, worlds, book, slices.Repeat([]int{9}, count))
				}
			}
			for _, bad := range badStakes {
				for at := range book {
					row := slices.Repeat([]int{1}, len(book))
					row[at] = bad
					checkNoBalance(t, worlds, book, row)
				}
			}
		}
		for _, bad := range badStakes {
			checkNoBalance(t, worlds, nil, []int{bad})
			checkNoBalance(t, worlds, []impl.Quote{{}}, []int{0, bad})
		}
	}
}

func TestPromise17BalancesAreSumsOfGains(t *testing.T) {
	for worlds := 1; worlds <= impl.MaxWorlds; worlds++ {
		for _, none := range [][]impl.Quote{nil, {}} {
			got, ok := impl.BalanceOf(worlds, none, nil)
			same, sameOk := impl.BalanceOf(worlds, none, []int{})
			if !ok || !sameOk || !slices.Equal(got, make([]int, worlds)) || !slices.Equal(same, got) {
				t.Errorf("%d worlds: no quotes bring %v, %t, or %v, %t", worlds, got, ok, same, sameOk)
			}
		}
	}
	eachBalance(func(worlds int, book []impl.Quote, stakes []int) {
		whole, ok := impl.BalanceOf(worlds, book, stakes)
		other, otherOk := impl.BalanceOf(worlds, book, otherSigns(stakes))
		if !ok || !otherOk || !slices.Equal(other, otherSigns(whole)) {
			t.Fatalf("%d worlds: %v at %v brings %v, %t, but with all signs exchanged %v, %t", worlds, book, stakes, whole, ok, other, otherOk)
		}
		if len(book) == 0 {
			return
		}
		last := len(book) - 1
		rest, restOk := impl.BalanceOf(worlds, book[:last], stakes[:last])
		sum, sumOk := impl.SumGamble(rest, impl.GainOf(worlds, book[last], stakes[last]))
		if !restOk || !sumOk || !slices.Equal(sum, whole) {
			t.Fatalf("%d worlds: %v at %v brings %v, but without its last quote, and that added, %v, %t", worlds, book, stakes, whole, sum, sumOk)
		}
	})
	for _, worlds := range []int{math.MinInt, 0, 5, math.MaxInt} {
		checkNoBalance(t, worlds, nil, nil)
	}
}

func TestGainsAreNewMemory(t *testing.T) {
	for worlds := 1; worlds <= impl.MaxWorlds; worlds++ {
		for _, q := range quotesOf(worlds) {
			for _, stake := range []int{-9, -1, 0, 1, 9} {
				checkNewMemory(t, []int{stake, 9, 9}, 1, func(row []int) []int {
					return impl.GainOf(worlds, q, row[0])
				})
			}
		}
	}
}

func TestBalancesAreNewMemory(t *testing.T) {
	room := []impl.Quote{{Event: 1, Price: 2}, {Event: 0, Price: 6}, {Event: 1, Price: 0}, {Event: 1, Price: 1}, {Event: 1, Price: 1}}
	before := slices.Clone(room)
	for worlds := 1; worlds <= impl.MaxWorlds; worlds++ {
		for quotes := range 4 {
			for _, row := range [][]int{{0, 0, 0, 8, 8}, {1, -2, 3, 8, 8}, {9, 9, -9, 8, 8}} {
				checkNewMemory(t, row, quotes, func(stakes []int) []int {
					got, _ := impl.BalanceOf(worlds, room[:quotes], stakes)
					return got
				})
			}
		}
	}
	if !slices.Equal(room, before) {
		t.Fatalf("the book was written to: %v", room)
	}
}

// TestBooksAreOnlyRead: no function writes to a book or to stakes, also not for calls that have no result.
func TestBooksAreOnlyRead(t *testing.T) {
	for _, quotes := range [][]impl.Quote{
		{{Event: 1, Price: 2}, {Event: 3, Price: 6}, {Event: 0, Price: 0}, {Event: 2, Price: 1}, {Event: 7, Price: 7}},
		{{Event: 16, Price: 2}, {Event: 1, Price: -1}, {Event: -1, Price: 9}, {Event: 2, Price: 1}, {Event: 7, Price: 7}},
	} {
		for _, amounts := range [][]int{{1, -2, 3, 4, 5}, {0, 0, 0, 0, 0}, {10, -10, math.MinInt, math.MaxInt, 5}} {
			book, row := slices.Clone(quotes), slices.Clone(amounts)
			for worlds := range 6 {
				for length := range 5 {
					impl.BookOk(worlds, book[:length])
					impl.BalanceOf(worlds, book[:length], row[:length])
					impl.BalanceOf(worlds, book[:length], row[:4-length])
				}
			}
			if !slices.Equal(book, quotes) || !slices.Equal(row, amounts) {
				t.Errorf("%v or %v was written to: %v %v", quotes, amounts, book, row)
			}
		}
	}
}
