package tests

import (
	"math"
	"slices"
	"testing"

	"loop.example/fairbooks/impl"
)

// badWorlds has numbers that are none of four worlds: the first ones past the bounds, and others up to the least and the greatest integers.
var badWorlds = []int{math.MinInt, math.MinInt + 1, math.MinInt32, -5, -4, -2, -1, 4, 5, 6, 16, 31, 32, 63, 64, math.MaxInt32, 1 << 32, 1<<32 + 1, math.MaxInt - 1, math.MaxInt}

// badPaid has numbers that are paid for no ticket: the first ones past the bounds, and others up to the least and the greatest integers.
var badPaid = []int{math.MinInt, math.MinInt + 1, math.MinInt32, -51, -50, -2, -1, 0, 51, 52, 100, 1000, math.MaxInt32, 1 << 32, 1<<32 + 1, math.MaxInt - 1, math.MaxInt}

// ticketsOn returns tickets on worlds, each paid what stands at its place.
func ticketsOn(worlds []int, paid []int) []impl.Ticket {
	list := make([]impl.Ticket, len(worlds))
	for at, world := range worlds {
		list[at] = impl.Ticket{World: world, Paid: paid[at]}
	}
	return list
}

// isTicket tells by going through all worlds and all that may be paid whether a ticket is one.
func isTicket(worlds int, ticket impl.Ticket) bool {
	for world := range worlds {
		for paid := 50; paid > 0; paid-- {
			if ticket == (impl.Ticket{World: world, Paid: paid}) {
				return true
			}
		}
	}
	return false
}

// isPool tells by counting what TicketsOk has to report.
func isPool(worlds int, list []impl.Ticket) bool {
	if countOfEvents[worlds] == 0 {
		return false
	}
	tickets := 0
	for _, ticket := range list {
		if isTicket(worlds, ticket) {
			tickets++
		}
	}
	return tickets == len(list) && tickets < 7
}

// placesOn returns the places of the tickets on a world.
func placesOn(list []impl.Ticket, world int) []int {
	var places []int
	for at, ticket := range list {
		if ticket.World == world {
			places = append(places, at)
		}
	}
	return places
}

// paidFor returns what was paid for the tickets at some places together.
func paidFor(list []impl.Ticket, places []int) int {
	sum := 0
	for _, at := range places {
		sum += list[at].Paid
	}
	return sum
}

// poolPaid returns what was paid for all tickets together.
func poolPaid(list []impl.Ticket) int {
	sum := 0
	for _, ticket := range list {
		sum += ticket.Paid
	}
	return sum
}

// shared tells by counting up, and not by a division, what PaidOut has to return, and how much is left when the shares are rounded down.
func shared(list []impl.Ticket, world int) ([]int, int) {
	gets := make([]int, len(list))
	winners := placesOn(list, world)
	if len(winners) == 0 {
		for at, ticket := range list {
			gets[at] = ticket.Paid
		}
		return gets, 0
	}
	pool, paid := poolPaid(list), paidFor(list, winners)
	left := pool
	for _, at := range winners {
		for (gets[at]+1)*paid <= list[at].Paid*pool {
			gets[at]++
			left--
		}
	}
	for _, at := range winners[:left] {
		gets[at]++
	}
	return gets, left
}

// drawPool draws so many tickets, each for at most so much.
func drawPool(draw func(below int) int, worlds int, count int, most int) []impl.Ticket {
	list := make([]impl.Ticket, count)
	for at := range list {
		list[at] = impl.Ticket{World: draw(worlds), Paid: 1 + draw(most)}
	}
	return list
}

// fewTickets returns all lists of no ticket and of one, lists of two tickets for all that may be paid, and of three for what is paid at the edges.
func fewTickets(worlds int) [][]impl.Ticket {
	list := [][]impl.Ticket{nil, {}}
	var all, edges []impl.Ticket
	for world := range worlds {
		for paid := 1; paid <= 50; paid++ {
			ticket := impl.Ticket{World: world, Paid: paid}
			all = append(all, ticket)
			if paid <= 3 || paid >= 49 {
				edges = append(edges, ticket)
			}
		}
	}
	for _, one := range all {
		list = append(list, []impl.Ticket{one})
		for _, other := range all {
			if worlds <= 2 || one.Paid%7 == 1 || other.Paid%7 == 1 {
				list = append(list, []impl.Ticket{one, other})
			}
		}
	}
	for _, one := range edges {
		for _, other := range edges {
			for _, third := range edges {
				list = append(list, []impl.Ticket{one, other, third})
			}
		}
	}
	return list
}

// manyTickets returns lists of four tickets up to MaxTickets: on worlds in each way there is, for as much as each other and for other amounts, and drawn ones.
func manyTickets(worlds int) [][]impl.Ticket {
	var list [][]impl.Ticket
	for count := 4; count <= 6; count++ {
		for _, row := range rowsOf(count, []int{0, 1, 2, 3}[:worlds]) {
			for _, paid := range [][]int{{1, 1, 1, 1, 1, 1}, {7, 7, 7, 7, 7, 7}, {50, 50, 50, 50, 50, 50}, {6, 5, 4, 3, 2, 1}, {1, 50, 1, 50, 1, 50}, {3, 3, 5, 5, 3, 8}} {
				list = append(list, ticketsOn(row, paid))
			}
		}
	}
	draw := drawer(uint64(100 + worlds))
	for count := 3; count <= 6; count++ {
		for _, most := range []int{2, 5, 13, 50} {
			for range 300 {
				list = append(list, drawPool(draw, 1+draw(worlds), count, most))
			}
		}
	}
	return list
}

// eachPool calls a function with lists of tickets of all kinds, of 1..4 worlds.
func eachPool(do func(worlds int, list []impl.Ticket)) {
	for worlds := 1; worlds <= 4; worlds++ {
		for _, list := range append(fewTickets(worlds), manyTickets(worlds)...) {
			do(worlds, list)
		}
	}
}

// badTickets returns tickets that are none of so many worlds: by the world, by what was paid, or by both.
func badTickets(worlds int) []impl.Ticket {
	var list []impl.Ticket
	for world := -1; world <= worlds; world++ {
		for _, paid := range badPaid {
			list = append(list, impl.Ticket{World: world, Paid: paid})
		}
	}
	for _, world := range append([]int{worlds, worlds + 1}, badWorlds...) {
		for _, paid := range []int{math.MinInt, -1, 0, 1, 7, 50, 51, math.MaxInt} {
			list = append(list, impl.Ticket{World: world, Paid: paid})
		}
	}
	return list
}

// eachNoPool calls a function with lists that are no pool of so many worlds: by the worlds, by the number of tickets, or by a ticket at any place.
func eachNoPool(do func(worlds int, list []impl.Ticket)) {
	good := []impl.Ticket{{World: 0, Paid: 3}, {World: 0, Paid: 50}, {World: 0, Paid: 1}, {World: 0, Paid: 3}, {World: 0, Paid: 8}, {World: 0, Paid: 49}, {World: 0, Paid: 2}}
	for _, worlds := range worldNumbers {
		if countOfEvents[worlds] == 0 {
			do(worlds, nil)
			for count := range good {
				do(worlds, good[:count])
			}
			do(worlds, []impl.Ticket{{World: 4, Paid: 1}})
			do(worlds, []impl.Ticket{{World: worlds - 1, Paid: 1}})
			do(worlds, []impl.Ticket{{}})
			continue
		}
		for _, count := range []int{7, 8, 12, 64, 1000} {
			for _, ticket := range []impl.Ticket{{World: 0, Paid: 1}, {World: worlds - 1, Paid: 50}, {}} {
				do(worlds, slices.Repeat([]impl.Ticket{ticket}, count))
			}
		}
		do(worlds, good)
		for _, bad := range badTickets(worlds) {
			for count := 1; count <= 7; count++ {
				for at := range count {
					list := slices.Clone(good[:count])
					list[at] = bad
					do(worlds, list)
				}
			}
			do(worlds, slices.Repeat([]impl.Ticket{bad}, 6))
		}
	}
	// What is paid for these together leaves the integers and comes back.
	do(2, []impl.Ticket{{World: 0, Paid: math.MaxInt}, {World: 1, Paid: math.MaxInt}, {World: 1, Paid: 12}})
	do(2, []impl.Ticket{{World: 0, Paid: math.MinInt}, {World: 0, Paid: math.MinInt}, {World: 1, Paid: 10}})
	do(2, []impl.Ticket{{World: 0, Paid: -5}, {World: 1, Paid: 15}})
	do(2, []impl.Ticket{{World: 0, Paid: -5}, {World: 0, Paid: 5}})
}

func TestBoundsOfPools(t *testing.T) {
	if impl.MaxTickets != 6 || impl.MaxPaid != 50 {
		t.Fatalf("MaxTickets = %d, MaxPaid = %d", impl.MaxTickets, impl.MaxPaid)
	}
}

func TestTicketsAreOnWorldsForPaid(t *testing.T) {
	check := func(worlds int, list []impl.Ticket) {
		t.Helper()
		if got := impl.TicketsOk(worlds, list); got != isPool(worlds, list) {
			t.Fatalf("TicketsOk(%d, %v) = %t", worlds, list, got)
		}
	}
	for _, worlds := range worldNumbers {
		for world := -2; world <= 6; world++ {
			for paid := -2; paid <= 53; paid++ {
				for count := range 8 {
					check(worlds, slices.Repeat([]impl.Ticket{{World: world, Paid: paid}}, count))
				}
			}
		}
	}
	for _, list := range append(fewTickets(2), manyTickets(4)...) {
		for worlds := 0; worlds <= 5; worlds++ {
			check(worlds, list)
		}
	}
	eachPool(func(worlds int, list []impl.Ticket) {
		if !impl.TicketsOk(worlds, list) {
			t.Fatalf("TicketsOk(%d, %v) = false", worlds, list)
		}
	})
	eachNoPool(func(worlds int, list []impl.Ticket) {
		check(worlds, list)
		if impl.TicketsOk(worlds, list) {
			t.Fatalf("TicketsOk(%d, %v) = true", worlds, list)
		}
	})
}

func TestPromise61NoTicketsAreAPool(t *testing.T) {
	for _, worlds := range worldNumbers {
		for _, none := range [][]impl.Ticket{nil, {}} {
			if got := impl.TicketsOk(worlds, none); got != (countOfEvents[worlds] > 0) {
				t.Errorf("TicketsOk(%d, no tickets) = %t", worlds, got)
			}
		}
	}
	eachPool(func(worlds int, list []impl.Ticket) {
		if len(list) > 0 && !impl.TicketsOk(worlds, list[:len(list)-1]) {
			t.Fatalf("TicketsOk(%d, %v) = false", worlds, list[:len(list)-1])
		}
		if len(list) < impl.MaxTickets {
			return
		}
		for _, ticket := range []impl.Ticket{list[0], {World: 0, Paid: 1}, {World: worlds - 1, Paid: 50}} {
			if more := append(slices.Clone(list), ticket); impl.TicketsOk(worlds, more) {
				t.Fatalf("TicketsOk(%d, %v) = true", worlds, more)
			}
		}
	})
}

// poolCases has lists of tickets with what is paid on each world, and what each ticket gets if a world turns out.
var poolCases = []struct {
	list []impl.Ticket
	on   []int   // by world
	gets [][]int // by world, and then by ticket
}{
	{nil, []int{0}, [][]int{{}}},
	{nil, []int{0, 0, 0, 0}, [][]int{{}, {}, {}, {}}},
	{ticketsOn([]int{0}, []int{1}), []int{1}, [][]int{{1}}},
	{ticketsOn([]int{0}, []int{50}), []int{50}, [][]int{{50}}},
	{ticketsOn([]int{0}, []int{7}), []int{7, 0, 0, 0}, [][]int{{7}, {7}, {7}, {7}}},
	{ticketsOn([]int{3}, []int{7}), []int{0, 0, 0, 7}, [][]int{{7}, {7}, {7}, {7}}},
	{ticketsOn([]int{0, 0}, []int{1, 50}), []int{51}, [][]int{{1, 50}}}, // all on one world
	{ticketsOn([]int{0, 0, 0, 0, 0, 0}, []int{1, 2, 3, 4, 5, 6}), []int{21}, [][]int{{1, 2, 3, 4, 5, 6}}},
	{ticketsOn([]int{1, 1, 1}, []int{3, 1, 2}), []int{0, 6}, [][]int{{3, 1, 2}, {3, 1, 2}}},
	{ticketsOn([]int{0, 1}, []int{1, 50}), []int{1, 50}, [][]int{{51, 0}, {0, 51}}},
	{ticketsOn([]int{2, 0, 3, 1}, []int{4, 1, 50, 9}), []int{1, 9, 4, 50}, [][]int{{0, 64, 0, 0}, {0, 0, 0, 64}, {64, 0, 0, 0}, {0, 0, 64, 0}}}, // each on a world of its own
	{ticketsOn([]int{0, 0, 1}, []int{2, 4, 6}), []int{6, 6}, [][]int{{4, 8, 0}, {0, 0, 12}}},                                                    // even shares
	{ticketsOn([]int{0, 0, 1}, []int{3, 3, 1}), []int{6, 1}, [][]int{{4, 3, 0}, {0, 0, 7}}},                                                     // a rest of 1
	{ticketsOn([]int{1, 0, 0}, []int{1, 3, 3}), []int{6, 1}, [][]int{{0, 4, 3}, {7, 0, 0}}},
	{ticketsOn([]int{0, 1, 0, 2}, []int{3, 5, 3, 4}), []int{6, 5, 4, 0}, [][]int{{8, 0, 7, 0}, {0, 15, 0, 0}, {0, 0, 0, 15}, {3, 5, 3, 4}}},
	{ticketsOn([]int{0, 0, 0, 1}, []int{1, 1, 1, 1}), []int{3, 1}, [][]int{{2, 1, 1, 0}, {0, 0, 0, 4}}},
	{ticketsOn([]int{0, 0, 0, 1}, []int{1, 1, 1, 2}), []int{3, 2}, [][]int{{2, 2, 1, 0}, {0, 0, 0, 5}}}, // a rest that reaches the last ticket but one
	{ticketsOn([]int{0, 1, 0, 1, 0, 1}, []int{1, 1, 1, 2, 1, 2}), []int{3, 5}, [][]int{{3, 0, 3, 0, 2, 0}, {0, 2, 0, 3, 0, 3}}},
	{ticketsOn([]int{1, 1, 1, 1, 1, 0}, []int{1, 1, 1, 1, 1, 4}), []int{4, 5, 0, 0}, [][]int{{0, 0, 0, 0, 0, 9}, {2, 2, 2, 2, 1, 0}, {1, 1, 1, 1, 1, 4}, {1, 1, 1, 1, 1, 4}}},
	{ticketsOn([]int{1, 1, 1, 1, 1, 0}, []int{50, 50, 50, 50, 50, 50}), []int{50, 250}, [][]int{{0, 0, 0, 0, 0, 300}, {60, 60, 60, 60, 60, 0}}},
	{ticketsOn([]int{1, 1, 1, 1, 1, 0}, []int{50, 50, 50, 50, 50, 49}), []int{49, 250}, [][]int{{0, 0, 0, 0, 0, 299}, {60, 60, 60, 60, 59, 0}}},
	{ticketsOn([]int{0, 0, 1}, []int{1, 50, 50}), []int{51, 50}, [][]int{{2, 99, 0}, {0, 0, 101}}}, // the lesser ticket is the first one, and gets the rest
	{ticketsOn([]int{0, 0, 1}, []int{50, 1, 50}), []int{51, 50}, [][]int{{100, 1, 0}, {0, 0, 101}}},
	{ticketsOn([]int{0, 0, 2}, []int{1, 2, 1}), []int{3, 0, 1}, [][]int{{2, 2, 0}, {1, 2, 1}, {0, 0, 4}}},
}

// TestSomePools tests the cases with what all functions of the chapter return for them.
func TestSomePools(t *testing.T) {
	for _, c := range poolCases {
		worlds := len(c.on)
		if !impl.TicketsOk(worlds, c.list) {
			t.Errorf("TicketsOk(%d, %v) = false", worlds, c.list)
		}
		if got := impl.PoolOf(worlds, c.list); got != poolPaid(c.list) {
			t.Errorf("PoolOf(%d, %v) = %d", worlds, c.list, got)
		}
		if got := impl.PaidOn(worlds, c.list); !slices.Equal(got, c.on) {
			t.Errorf("PaidOn(%d, %v) = %v, not %v", worlds, c.list, got, c.on)
		}
		for world, want := range c.gets {
			if got := impl.PaidOut(worlds, c.list, world); !slices.Equal(got, want) {
				t.Errorf("PaidOut(%d, %v, %d) = %v, not %v", worlds, c.list, world, got, want)
			}
		}
		for at, ticket := range c.list {
			want := make([]int, worlds)
			for world := range want {
				want[world] = c.gets[world][at] - ticket.Paid
			}
			if got := impl.TakenBy(worlds, c.list, at); !slices.Equal(got, want) {
				t.Errorf("TakenBy(%d, %v, %d) = %v, not %v", worlds, c.list, at, got, want)
			}
		}
	}
}

func TestPromise62PoolsArePaidOnWorlds(t *testing.T) {
	for worlds := 1; worlds <= impl.MaxWorlds; worlds++ {
		for _, none := range [][]impl.Ticket{nil, {}} {
			if got := impl.PoolOf(worlds, none); got != 0 {
				t.Errorf("PoolOf(%d, no tickets) = %d", worlds, got)
			}
		}
	}
	eachPool(func(worlds int, list []impl.Ticket) {
		sum := 0
		for _, paid := range impl.PaidOn(worlds, list) {
			sum += paid
		}
		if got := impl.PoolOf(worlds, list); got != sum || got != poolPaid(list) {
			t.Fatalf("PoolOf(%d, %v) = %d, but on all worlds together %d are paid", worlds, list, got, sum)
		}
	})
}

func TestPromise63EachTicketIsPaidOnOneWorld(t *testing.T) {
	for worlds := 1; worlds <= impl.MaxWorlds; worlds++ {
		for _, none := range [][]impl.Ticket{nil, {}} {
			if got := impl.PaidOn(worlds, none); !slices.Equal(got, make([]int, worlds)) {
				t.Errorf("PaidOn(%d, no tickets) = %v", worlds, got)
			}
		}
	}
	eachPool(func(worlds int, list []impl.Ticket) {
		got := impl.PaidOn(worlds, list)
		if len(got) != worlds {
			t.Fatalf("PaidOn(%d, %v) = %v", worlds, list, got)
		}
		for world := range worlds {
			if got[world] != paidFor(list, placesOn(list, world)) {
				t.Fatalf("PaidOn(%d, %v) = %v", worlds, list, got)
			}
		}
		if len(list) == 0 {
			return
		}
		last := list[len(list)-1]
		before := impl.PaidOn(worlds, list[:len(list)-1])
		if len(before) != worlds {
			t.Fatalf("PaidOn(%d, %v) = %v", worlds, list[:len(list)-1], before)
		}
		before[last.World] += last.Paid
		if !slices.Equal(before, got) {
			t.Fatalf("PaidOn(%d, %v) = %v, but by those before the last one %v", worlds, list, got, before)
		}
	})
}

// checkWinners tests what promise 64 says of the tickets on the world that turns out.
func checkWinners(t *testing.T, list []impl.Ticket, world int, gets []int) {
	t.Helper()
	winners := placesOn(list, world)
	for _, at := range winners {
		if gets[at] < list[at].Paid {
			t.Fatalf("%v, if world %d turns out, get %v: the one at %d less than it paid", list, world, gets, at)
		}
		for _, other := range winners {
			if off := gets[at] - gets[other]; list[at].Paid == list[other].Paid && (off < -1 || off > 1) {
				t.Fatalf("%v, if world %d turns out, get %v: those at %d and %d paid as much", list, world, gets, at, other)
			}
		}
	}
}

func TestPromise64ThePoolIsPaidOutToTheLast(t *testing.T) {
	back, even, rests, far := 0, 0, 0, 0
	eachPool(func(worlds int, list []impl.Ticket) {
		for world := range worlds {
			gets := impl.PaidOut(worlds, list, world)
			want, left := shared(list, world)
			if !slices.Equal(gets, want) {
				t.Fatalf("PaidOut(%d, %v, %d) = %v, not %v", worlds, list, world, gets, want)
			}
			sum := 0
			for _, got := range gets {
				sum += got
			}
			if sum != impl.PoolOf(worlds, list) {
				t.Fatalf("PaidOut(%d, %v, %d) = %v, of a pool of %d", worlds, list, world, gets, impl.PoolOf(worlds, list))
			}
			checkWinners(t, list, world, gets)
			winners := len(placesOn(list, world))
			switch {
			case winners == 0:
				back++
			case left == 0:
				even++
			case winners > 2 && left == winners-1:
				far++
			default:
				rests++
			}
		}
	})
	if back < 1000 || even < 1000 || rests < 1000 || far < 1000 {
		t.Errorf("paid back: %d, even: %d, with a rest: %d, with a rest up to the last ticket but one: %d", back, even, rests, far)
	}
}

// TestPoolsGoByTheOrderOfTickets: only the rest goes by places, so tickets in the other order get as much, but for one more or less.
func TestPoolsGoByTheOrderOfTickets(t *testing.T) {
	moved := 0
	eachPool(func(worlds int, list []impl.Ticket) {
		turned := slices.Clone(list)
		slices.Reverse(turned)
		for world := range worlds {
			gets, others := impl.PaidOut(worlds, list, world), impl.PaidOut(worlds, turned, world)
			slices.Reverse(others)
			for at, got := range gets {
				off := got - others[at]
				if off < -1 || off > 1 {
					t.Fatalf("PaidOut(%d, %v, %d) = %v, but in the other order %v", worlds, list, world, gets, others)
				}
				if off != 0 {
					moved++
				}
			}
		}
	})
	if moved < 1000 {
		t.Errorf("%d tickets get the rest in one order alone", moved)
	}
}

func TestPromise65WhatIsTakenIsGivenByTheOthers(t *testing.T) {
	eachPool(func(worlds int, list []impl.Ticket) {
		sums := make([]int, worlds)
		for at, ticket := range list {
			taken := impl.TakenBy(worlds, list, at)
			if len(taken) != worlds {
				t.Fatalf("TakenBy(%d, %v, %d) = %v", worlds, list, at, taken)
			}
			for world, brings := range taken {
				gets := impl.PaidOut(worlds, list, world)
				if brings != gets[at]-ticket.Paid || brings < -ticket.Paid {
					t.Fatalf("TakenBy(%d, %v, %d) = %v, but in world %d it gets %d", worlds, list, at, taken, world, gets[at])
				}
				sums[world] += brings
			}
			if taken[ticket.World] < 0 {
				t.Fatalf("TakenBy(%d, %v, %d) = %v, less than nothing on its own world", worlds, list, at, taken)
			}
		}
		if !slices.Equal(sums, make([]int, worlds)) {
			t.Fatalf("%d worlds: all tickets %v together bring %v", worlds, list, sums)
		}
	})
}

func TestPromise66NoTicketSurelyWins(t *testing.T) {
	nothing, less := 0, 0
	eachPool(func(worlds int, list []impl.Ticket) {
		used := map[int]bool{}
		for _, ticket := range list {
			used[ticket.World] = true
		}
		for at := range list {
			taken := impl.TakenBy(worlds, list, at)
			worst, ok := impl.WorstOf(taken)
			if !ok || worst > 0 || worst != slices.Min(taken) {
				t.Fatalf("TakenBy(%d, %v, %d) = %v, with the worst %d, %t", worlds, list, at, taken, worst, ok)
			}
			if (worst < 0) != (len(used) > 1) {
				t.Fatalf("TakenBy(%d, %v, %d) = %v, and there are tickets on %d worlds", worlds, list, at, taken, len(used))
			}
			if worst == 0 {
				nothing++
			} else {
				less++
			}
		}
	})
	if nothing < 1000 || less < 1000 {
		t.Errorf("at worst %d tickets bring nothing, and %d less", nothing, less)
	}
}

func TestOtherTicketsAreNoPool(t *testing.T) {
	eachNoPool(func(worlds int, list []impl.Ticket) {
		if got := impl.PoolOf(worlds, list); got != -1 {
			t.Fatalf("PoolOf(%d, %v) = %d", worlds, list, got)
		}
		if got := impl.PaidOn(worlds, list); len(got) != 0 {
			t.Fatalf("PaidOn(%d, %v) = %v", worlds, list, got)
		}
		for _, number := range []int{math.MinInt, -1, 0, 1, 2, 3, 4, 5, 6, 7, math.MaxInt} {
			if got := impl.PaidOut(worlds, list, number); len(got) != 0 {
				t.Fatalf("PaidOut(%d, %v, %d) = %v", worlds, list, number, got)
			}
			if got := impl.TakenBy(worlds, list, number); len(got) != 0 {
				t.Fatalf("TakenBy(%d, %v, %d) = %v", worlds, list, number, got)
			}
		}
	})
}

func TestOtherWorldsPayNothingOut(t *testing.T) {
	for _, c := range poolCases {
		for worlds := len(c.on); worlds <= 4; worlds++ {
			for _, world := range append([]int{worlds, worlds + 1}, badWorlds...) {
				if got := impl.PaidOut(worlds, c.list, world); len(got) != 0 {
					t.Fatalf("PaidOut(%d, %v, %d) = %v", worlds, c.list, world, got)
				}
			}
			// A world without tickets, past those of the case, is one of so many all the same.
			for world := len(c.on); world < worlds; world++ {
				if got, _ := shared(c.list, world); !slices.Equal(impl.PaidOut(worlds, c.list, world), got) {
					t.Fatalf("PaidOut(%d, %v, %d) = %v", worlds, c.list, world, impl.PaidOut(worlds, c.list, world))
				}
			}
		}
	}
}

func TestOtherPlacesTakeNothing(t *testing.T) {
	eachPool(func(worlds int, list []impl.Ticket) {
		for _, at := range []int{math.MinInt, math.MinInt + 1, math.MinInt32, -len(list), -1, len(list), len(list) + 1, 6, 7, 1000, math.MaxInt32, 1 << 32, 1<<32 + 1, math.MaxInt - 1, math.MaxInt} {
			if got := impl.TakenBy(worlds, list, at); len(got) != 0 {
				t.Fatalf("TakenBy(%d, %v, %d) = %v", worlds, list, at, got)
			}
		}
	})
}

func TestPoolsAreNewMemory(t *testing.T) {
	checkNew := func(room []impl.Ticket, length int, call func(list []impl.Ticket) []int) {
		t.Helper()
		checkNewItems(t, room, length, 777, call)
	}
	for _, c := range poolCases {
		worlds := len(c.on)
		room := append(slices.Clone(c.list), impl.Ticket{World: 9, Paid: 9}, impl.Ticket{World: 0, Paid: 9}, impl.Ticket{})
		checkNew(room, len(c.list), func(list []impl.Ticket) []int { return impl.PaidOn(worlds, list) })
		for at := range c.list {
			for world := range worlds {
				checkNew(room, len(c.list), func(list []impl.Ticket) []int { return impl.PaidOut(worlds, list, world) })
			}
			checkNew(room, len(c.list), func(list []impl.Ticket) []int { return impl.TakenBy(worlds, list, at) })
		}
	}
}

// TestPoolsOnlyRead: no function of the chapter writes to tickets, or to the room behind them, also not for calls that have no result.
func TestPoolsOnlyRead(t *testing.T) {
	for _, tickets := range [][]impl.Ticket{
		ticketsOn([]int{0, 1, 0, 2, 3, 1, 0}, []int{3, 5, 3, 4, 50, 1, 9}),
		ticketsOn([]int{3, 3, 3, 3, 3, 3, 3}, []int{1, 1, 1, 1, 1, 1, 1}),
		ticketsOn([]int{0, 1, -1, 4, math.MaxInt, 0, 0}, []int{1, 0, 5, 50, 51, math.MinInt, 9}),
	} {
		list := slices.Clone(tickets)
		for length := range len(list) + 1 {
			for worlds := -1; worlds <= 5; worlds++ {
				impl.TicketsOk(worlds, list[:length])
				impl.PoolOf(worlds, list[:length])
				impl.PaidOn(worlds, list[:length])
				for number := -1; number <= 7; number++ {
					impl.PaidOut(worlds, list[:length], number)
					impl.TakenBy(worlds, list[:length], number)
				}
			}
		}
		if !slices.Equal(list, tickets) {
			t.Errorf("%v was written to: %v", tickets, list)
		}
	}
}
