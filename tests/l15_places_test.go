package tests

import (
	"fmt"
	"math"
	"reflect"
	"regexp"
	"slices"
	"strings"
	"sync"
	"testing"
	"unsafe"

	"loop.example/fairbooks/impl"
)

// lot is a place as these tests keep it, so that two of them can be compared: so many quotes, and their stakes.
type lot struct {
	count  int
	quotes [3]impl.Quote
	stakes [3]int
}

// lotOf returns the lot of at most three quotes and their stakes.
func lotOf(quotes []impl.Quote, stakes []int) lot {
	x := lot{count: len(quotes)}
	copy(x.quotes[:], quotes)
	copy(x.stakes[:], stakes)
	return x
}

// place returns the lot as a place, in new memory.
func (x lot) place() impl.Place {
	return impl.Place{Book: slices.Clone(x.quotes[:x.count]), Stakes: slices.Clone(x.stakes[:x.count])}
}

// text tells what PlaceText has to return.
func (x lot) text() string {
	var parts []string
	for i := range x.count {
		parts = append(parts, fmt.Sprintf("%d:%d:%d", x.quotes[i].Event, x.quotes[i].Price, x.stakes[i]))
	}
	if parts == nil {
		return "."
	}
	return strings.Join(parts, ",")
}

// bookFacts has what a list of all measures tells of a book of four worlds: the first one that fits, how many do, and which numbers of grains they have.
type bookFacts struct {
	first []int
	count int
	seenGrains
}

// knownFacts has the facts of all books that were asked for, as lots without stakes.
var knownFacts = map[lot]bookFacts{}

// facts returns what is known of the book of a lot, whose quotes are valid.
func (x lot) facts() bookFacts {
	x.stakes = [3]int{}
	if _, known := knownFacts[x]; !known {
		facts := bookFacts{}
		facts.seenGrains = grainsSeen(4, func(m []int) bool {
			fits := fitsBook(m, x.quotes[:x.count])
			if fits && facts.count == 0 {
				facts.first = m
			}
			if fits {
				facts.count++
			}
			return fits
		})
		knownFacts[x] = facts
	}
	return knownFacts[x]
}

// isPlace tells what PlaceOk has to report.
func isPlace(p impl.Place) bool {
	for _, stake := range p.Stakes {
		if !slices.Contains(allStakes(), stake) {
			return false
		}
	}
	return isBook(4, p.Book) && len(p.Stakes) == len(p.Book) && lotOf(p.Book, p.Stakes).facts().fair()
}

// onePart has how one quote is written in the text of a place.
const onePart = "(?:[0-9]|1[0-5]):[0-6]:(?:0|-?[1-9])"

// placePattern fits the texts of all places, and those of the books that are not fair.
var placePattern = regexp.MustCompile("^(?:[.]|" + onePart + "(?:," + onePart + "){0,2})$")

// placeByPattern tells by a pattern what ReadPlace has to return.
func placeByPattern(text string) (lot, bool) {
	x := lot{}
	if !placePattern.MatchString(text) {
		return x, false
	}
	if text == "." {
		return x, true
	}
	for _, part := range strings.Split(text, ",") {
		fmt.Sscanf(part, "%d:%d:%d", &x.quotes[x.count].Event, &x.quotes[x.count].Price, &x.stakes[x.count])
		x.count++
	}
	if !x.facts().fair() {
		return lot{}, false
	}
	return x, true
}

// exampleLot is the place of the document's example.
var exampleLot = lotOf([]impl.Quote{{Event: 10, Price: 2}, {Event: 12, Price: 3}}, []int{1, -1})

// someLots returns places: without quotes, with each quote that is fair alone, with two and three quotes, drawn ones and ones that are drawn so that a measure fits, at drawn stakes, and some of them at stakes at the bounds.
var someLots = sync.OnceValue(func() []lot {
	draw := drawer(140)
	list := []lot{{}, exampleLot}
	add := func(quotes []impl.Quote) {
		if x := lotOf(quotes, drawStakes(draw, len(quotes))); x.facts().fair() {
			list = append(list, x)
		}
	}
	for _, q := range quotesOf(4) {
		add([]impl.Quote{q})
	}
	for count := 2; count <= 3; count++ {
		for range 40 {
			add(drawBook(draw, 4, count))
			add(drawFitted(draw, drawSixths(draw, 4), count))
			add(drawFitted(draw, drawMeasure(draw, 4), count))
		}
		add(slices.Repeat([]impl.Quote{{Event: 6, Price: 4}}, count)) // one quote more than once
	}
	for _, stake := range []int{-9, -1, 0, 1, 9} {
		for _, x := range []lot{lotOf([]impl.Quote{{Event: 6, Price: 4}}, nil), exampleLot, lotOf([]impl.Quote{{Event: 10, Price: 2}, {Event: 12, Price: 3}, {Event: 8, Price: 1}}, nil)} {
			x.stakes = lotOf(nil, slices.Repeat([]int{stake}, x.count)).stakes
			list = append(list, x)
		}
	}
	return list
})

// unfairLots returns what would be places if books that are not fair were ones: by one quote, by one event at two prices, by an event that is implied, by three quotes of which any two are fair, and drawn ones.
var unfairLots = sync.OnceValue(func() []lot {
	draw := drawer(141)
	var list []lot
	add := func(quotes ...impl.Quote) {
		if x := lotOf(quotes, drawStakes(draw, len(quotes))); !x.facts().fair() {
			list = append(list, x)
		}
	}
	for _, q := range quotesOf(4) {
		add(q)
	}
	add(impl.Quote{Event: 6, Price: 4}, impl.Quote{Event: 6, Price: 3})
	add(impl.Quote{Event: 10, Price: 2}, impl.Quote{Event: 5, Price: 5})
	add(impl.Quote{Event: 3, Price: 2}, impl.Quote{Event: 1, Price: 3})
	add(impl.Quote{Event: 1, Price: 3}, impl.Quote{Event: 2, Price: 3}, impl.Quote{Event: 4, Price: 1})
	add(impl.Quote{Event: 1, Price: 2}, impl.Quote{Event: 2, Price: 2}, impl.Quote{Event: 12, Price: 3})
	for range 60 {
		add(drawBook(draw, 4, 2)...)
		add(drawBook(draw, 4, 3)...)
	}
	return list
})

// fewBadPlaces returns what is no place, for each reason one or more: the quotes, the stakes, their numbers, and books that are not fair.
func fewBadPlaces() []impl.Place {
	quote, third := impl.Quote{Event: 6, Price: 4}, impl.Quote{Event: 1, Price: 1}
	list := []impl.Place{
		{Book: []impl.Quote{quote}},
		{Stakes: []int{0}},
		{Book: []impl.Quote{quote}, Stakes: []int{0, 0}},
		{Book: []impl.Quote{quote, third}, Stakes: []int{1}},
		{Book: []impl.Quote{quote, third, third, third}, Stakes: []int{1, 2, 3, 4}},
		{Book: slices.Repeat([]impl.Quote{third}, 64), Stakes: make([]int, 64)},
		{Book: []impl.Quote{quote}, Stakes: []int{10}},
		{Book: []impl.Quote{quote}, Stakes: []int{-10}},
		{Book: []impl.Quote{quote, third}, Stakes: []int{0, math.MinInt}},
		{Book: []impl.Quote{{Event: 16, Price: 4}}, Stakes: []int{0}},
		{Book: []impl.Quote{{Event: -1, Price: 4}}, Stakes: []int{0}},
		{Book: []impl.Quote{quote, {Event: 1, Price: 7}}, Stakes: []int{0, 0}},
		{Book: []impl.Quote{quote, {Event: 1, Price: -1}}, Stakes: []int{0, 0}},
	}
	for _, x := range unfairLots()[:20] {
		list = append(list, x.place())
	}
	return append(list, lotOf([]impl.Quote{{Event: 1, Price: 3}, {Event: 2, Price: 3}, {Event: 4, Price: 1}}, []int{1, 1, 1}).place())
}

// eachBadPlace calls a function with what is no place: the few ones, all books that are not fair, one bad quote or stake at each place among good ones, and each number of stakes for another one of quotes.
func eachBadPlace(do func(p impl.Place)) {
	for _, p := range fewBadPlaces() {
		do(p)
	}
	for _, x := range unfairLots() {
		do(x.place())
	}
	good := lotOf([]impl.Quote{{Event: 10, Price: 2}, {Event: 12, Price: 3}, {Event: 8, Price: 1}}, []int{9, 0, -9})
	for count := 1; count <= 3; count++ {
		good.count = count
		for at := range count {
			for _, bad := range badQuotes(4) {
				p := good.place()
				p.Book[at] = bad
				do(p)
			}
			for _, bad := range badStakes {
				p := good.place()
				p.Stakes[at] = bad
				do(p)
			}
		}
	}
	for quotes := range 6 {
		for stakes := range 6 {
			p := impl.Place{Book: slices.Repeat([]impl.Quote{{Event: 1, Price: 1}}, quotes), Stakes: make([]int, stakes)}
			if quotes != stakes || quotes > 3 {
				do(p)
			}
		}
	}
}

// samePlaces tells whether two places are the same.
func samePlaces(a impl.Place, b impl.Place) bool {
	return slices.Equal(a.Book, b.Book) && slices.Equal(a.Stakes, b.Stakes)
}

// checkPlace tests that a place is the one of a lot.
func checkPlace(t *testing.T, got impl.Place, want lot) {
	t.Helper()
	if !samePlaces(got, want.place()) {
		t.Fatalf("the place is %v, not %v", got, want.place())
	}
}

func TestNumbersOfDesks(t *testing.T) {
	if kinds := []int{impl.DkQuote, impl.DkPrice, impl.DkTake, impl.DkDrop, impl.DkBack}; !slices.Equal(kinds, []int{0, 1, 2, 3, 4}) {
		t.Errorf("the kinds of deeds are %v", kinds)
	}
	if bounds := []int{impl.MaxPast, impl.MaxLines, impl.MaxLog}; !slices.Equal(bounds, []int{8, 40, 1000}) {
		t.Errorf("the bounds of desks and stores are %v", bounds)
	}
}

func TestSomePlaces(t *testing.T) {
	a, b, both := impl.Quote{Event: 10, Price: 2}, impl.Quote{Event: 12, Price: 3}, impl.Quote{Event: 8, Price: 1}
	for _, c := range []struct {
		book   []impl.Quote
		stakes []int
		want   string
	}{
		{nil, nil, "."}, // no quotes
		{[]impl.Quote{}, []int{}, "."},
		{[]impl.Quote{a}, []int{0}, "10:2:0"},
		{[]impl.Quote{a, b}, []int{1, -1}, "10:2:1,12:3:-1"},
		{[]impl.Quote{b, a}, []int{1, -1}, "12:3:1,10:2:-1"},
		{[]impl.Quote{a, b, both}, []int{9, 0, -9}, "10:2:9,12:3:0,8:1:-9"}, // MaxQuotes quotes, and stakes of 0 and of MaxStake
		{[]impl.Quote{a, b, both, both}, []int{0, 0, 0, 0}, ""},             // one more
		{[]impl.Quote{a, a, a}, []int{1, 2, 3}, "10:2:1,10:2:2,10:2:3"},     // one quote three times
		{[]impl.Quote{a}, []int{10}, ""},                                    // one past MaxStake
		{[]impl.Quote{a}, []int{-10}, ""},
		{[]impl.Quote{a, b}, []int{0, 10}, ""},
		{[]impl.Quote{a}, []int{math.MinInt}, ""},
		{[]impl.Quote{a}, nil, ""}, // fewer stakes than quotes
		{[]impl.Quote{a, b}, []int{0}, ""},
		{nil, []int{0}, ""}, // and more
		{[]impl.Quote{a}, []int{0, 0}, ""},
		{[]impl.Quote{{}}, []int{3}, "0:0:3"}, // never, at nothing
		{[]impl.Quote{{Event: 0, Price: 1}}, []int{0}, ""},
		{[]impl.Quote{{Event: 15, Price: 6}}, []int{-3}, "15:6:-3"}, // always, at the whole
		{[]impl.Quote{{Event: 15, Price: 5}}, []int{0}, ""},
		{[]impl.Quote{{Event: 7, Price: 5}}, []int{0}, "7:5:0"}, // always of three worlds, and fair just of four
		{[]impl.Quote{{Event: 3, Price: 0}}, []int{0}, "3:0:0"}, // always of two
		{[]impl.Quote{{Event: 1, Price: 0}}, []int{0}, "1:0:0"}, // always of one
		{[]impl.Quote{{Event: 1, Price: 1}, {Event: 2, Price: 1}}, []int{0, 0}, "1:1:0,2:1:0"},
		{[]impl.Quote{{Event: 16, Price: 1}}, []int{0}, ""}, // no event of four worlds
		{[]impl.Quote{a, {Event: 10, Price: 3}}, []int{0, 0}, ""},
		{[]impl.Quote{a, {Event: 5, Price: 4}}, []int{0, 0}, "10:2:0,5:4:0"}, // the other one at what lacks to the whole
		{[]impl.Quote{a, {Event: 8, Price: 3}}, []int{0, 0}, ""},
	} {
		p := impl.Place{Book: c.book, Stakes: c.stakes}
		if ok := impl.PlaceOk(p); ok != (c.want != "") || ok != isPlace(p) {
			t.Errorf("PlaceOk(%v) = %t", p, ok)
		}
		if got := impl.PlaceText(p); got != c.want {
			t.Errorf("PlaceText(%v) = %q, not %q", p, got, c.want)
		}
	}
}

func TestPromise103APlaceWithoutQuotesIsOne(t *testing.T) {
	if !impl.PlaceOk(impl.Place{}) || !impl.PlaceOk(impl.Place{Book: []impl.Quote{}, Stakes: []int{}}) {
		t.Fatal("no quotes are no place")
	}
	check := func(p impl.Place, want bool) {
		t.Helper()
		if ok := impl.PlaceOk(p); ok != want || ok != isPlace(p) {
			t.Fatalf("PlaceOk(%v) = %t", p, ok)
		}
		if turned := (impl.Place{Book: p.Book, Stakes: otherSigns(p.Stakes)}); impl.PlaceOk(turned) != want {
			t.Fatalf("PlaceOk(%v) = %t, but with the other signs it is not", p, want)
		}
	}
	counts := [4]int{}
	for _, x := range someLots() {
		check(x.place(), true)
		counts[x.count]++
		for ; x.count > 0; x.count-- {
			check(x.place(), true)
		}
	}
	if slices.Min(counts[1:]) < 50 {
		t.Errorf("places by their quotes: %v", counts)
	}
	eachBadPlace(func(p impl.Place) {
		check(p, false)
	})
}

func TestPromise88TextsOfPlacesAreRead(t *testing.T) {
	for _, x := range someLots() {
		text := impl.PlaceText(x.place())
		if text != x.text() {
			t.Fatalf("PlaceText(%v) = %q, not %q", x.place(), text, x.text())
		}
		p, ok := impl.ReadPlace(text)
		if !ok {
			t.Fatalf("ReadPlace(%q) is told nothing", text)
		}
		checkPlace(t, p, x)
	}
	eachBadPlace(func(p impl.Place) {
		if text := impl.PlaceText(p); text != "" {
			t.Fatalf("PlaceText(%v) = %q", p, text)
		}
	})
}

// checkPlaceRead tests what ReadPlace returns for a text, and what promise 89 says of it; it tells whether the text is read.
func checkPlaceRead(t *testing.T, text string) bool {
	t.Helper()
	want, wantOk := placeByPattern(text)
	p, ok := impl.ReadPlace(text)
	if ok != wantOk || !samePlaces(p, want.place()) {
		t.Fatalf("ReadPlace(%q) = %v, %t, not %v, %t", text, p, ok, want.place(), wantOk)
	}
	if ok && impl.PlaceText(p) != text {
		t.Fatalf("%q is read as %v, whose text is %q", text, p, impl.PlaceText(p))
	}
	for _, longer := range []string{text + " ", " " + text, text + "\n"} {
		if p, ok := impl.ReadPlace(longer); ok || !samePlaces(p, impl.Place{}) {
			t.Fatalf("ReadPlace(%q) = %v, %t", longer, p, ok)
		}
	}
	return ok
}

func TestPromise89ReadTextsOfPlacesAreCanonical(t *testing.T) {
	draw, read, refused := drawer(89), 0, 0
	for _, x := range someLots() {
		if !checkPlaceRead(t, x.text()) {
			t.Fatalf("ReadPlace(%q) is told nothing", x.text())
		}
		for range 8 {
			if checkPlaceRead(t, changed(draw, x.text())) {
				read++
			} else {
				refused++
			}
		}
	}
	if read < 50 || refused < 1000 {
		t.Errorf("%d changed texts are read, and %d refused", read, refused)
	}
	for _, x := range unfairLots() {
		if checkPlaceRead(t, x.text()) {
			t.Fatalf("%q is read, but not fair", x.text())
		}
	}
	for size, want := range []int{0, 1, 0, 0, 0, 40, 54} {
		read := 0
		for _, text := range textsOf(size, "0167-:.,") {
			if checkPlaceRead(t, text) {
				read++
			}
		}
		if read != want {
			t.Errorf("%d texts of %d bytes are read, not %d", read, size, want)
		}
	}
}

func TestTextsThatAreNoPlaces(t *testing.T) {
	digits := strings.Repeat("9", 1000)
	for _, text := range []string{
		"", " ", "0", "..", ".,.", ".,6:4:0", "6:4:0,.", ",", ":", "::", ":::", ",,", "-", "6", "6:4", "6:4:", ":4:0", "6::0", "6:4:0:", ":6:4:0", "6:4:0:0", "6:4,0", "6,4,0", "6.4.0", "6 4 0", "6;4;0",
		"16:1:0", "17:1:0", "20:1:0", "99:1:0", "-1:1:0", "-0:0:0", "00:0:0", "06:4:0", "+6:4:0", " 6:4:0", "6 :4:0", "6: 4:0", "6:4: 0", "6:4:0 ", "6:4:0\n", "6:4:0\x00", "\xff6:4:0", "６:4:0", "a:4:0", "a&b:1:0", "0x6:4:0", "6e0:4:0", "6.0:4:0",
		"6:7:0", "6:8:0", "6:10:0", "6:-1:0", "6:-0:0", "6:04:0", "6:+4:0", "6:4.:0",
		"6:4:10", "6:4:-10", "6:4:11", "6:4:99", "6:4:-0", "6:4:+0", "6:4:+1", "6:4:00", "6:4:01", "6:4:-01", "6:4:--1", "6:4:1-", "6:4:-", "6:4:- 1",
		"6:4:9223372036854775807", "6:4:-9223372036854775808", "6:4:18446744073709551616", "18446744073709551622:4:0", "4294967302:4:0", "6:4294967300:0", "6:18446744073709551620:0", "-18446744073709551610:4:0",
		digits + ":4:0", "6:" + digits + ":0", "6:4:" + digits, "6:4:-" + digits, strings.Repeat("0", 1000) + "6:4:0",
		"6:4:0,", ",6:4:0", "6:4:0,,6:4:0", "6:4:0, 6:4:0", "6:4:0;6:4:0", "6:4:0 6:4:0", "6:4:06:4:0", "6:4:0.6:4:0", "6:4:0,6:4", "6:4,6:4:0", "6:4:0,6", "6:4:0,6:4:0,", "6:4:0,6:4:0,6:4:0,",
		"6:4:0,6:4:0,6:4:0,6:4:0", // one more than MaxQuotes
		strings.Repeat("6:4:0,", 4) + "6:4:0", strings.Repeat("6:4:0,", 100000) + "6:4:0", strings.Repeat(",", 100000), strings.Repeat(":", 100000), strings.Repeat("6:", 100000), strings.Repeat(".", 100000), strings.Repeat("6", 100000),
		"0:1:0", "0:6:0", "15:5:0", "15:0:0", "10:2:0,10:3:0", "10:2:0,5:5:0", "3:2:0,1:3:0", "1:3:0,2:3:0,4:1:0", // books that are not fair
		"[6:4:0]", "(6:4:0)", "{6 4 0}", "6:4:0\n6:4:0", "quote a 1",
	} {
		if checkPlaceRead(t, text) {
			t.Errorf("%q is read", text)
		}
	}
	for sign := range 256 {
		one := string([]byte{byte(sign)})
		for _, text := range []string{one, one + "6:4:0", "6" + one + "4:0", "6:4" + one + "0", "6:4:" + one, "6:4:0" + one, "6:4:0" + one + "6:4:1", "6:4:" + one + "1", "6:" + one + ":1", one + ":4:1"} {
			checkPlaceRead(t, text)
		}
	}
}

// stand is a desk as these tests keep it: the place, and those of before.
type stand struct {
	now  lot
	past []lot
}

// desk returns the stand as a desk, in new memory.
func (x stand) desk() impl.Desk {
	d := impl.Desk{Now: x.now.place()}
	for _, before := range x.past {
		d.Past = append(d.Past, before.place())
	}
	return d
}

// sameDesks tells whether two desks are the same.
func sameDesks(a impl.Desk, b impl.Desk) bool {
	return samePlaces(a.Now, b.Now) && slices.EqualFunc(a.Past, b.Past, samePlaces)
}

// checkDesk tests that a desk is that of a stand.
func checkDesk(t *testing.T, got impl.Desk, want stand) {
	t.Helper()
	if !sameDesks(got, want.desk()) {
		t.Fatalf("the desk is %v, not %v", got, want.desk())
	}
}

// checkNoDesk tests that a desk is the zero value.
func checkNoDesk(t *testing.T, d impl.Desk) {
	t.Helper()
	if !sameDesks(d, impl.Desk{}) {
		t.Fatalf("the desk is %v, not nothing", d)
	}
}

// someStands returns desks: some places without any of before, and drawn ones with each number of places of before.
var someStands = sync.OnceValue(func() []stand {
	draw, lots := drawer(142), someLots()
	var list []stand
	for i := 0; i < len(lots); i += 6 {
		list = append(list, stand{now: lots[i]})
	}
	list = append(list, stand{now: exampleLot})
	for past := 1; past <= 8; past++ {
		for range 3 {
			x := stand{now: lots[draw(len(lots))]}
			for range past {
				x.past = append(x.past, lots[draw(len(lots))])
			}
			list = append(list, x)
		}
	}
	return list
})

// badDesks returns what is no desk: with one bad place now, with one at each place among those of before, and with more than MaxPast of before.
func badDesks() []impl.Desk {
	var list []impl.Desk
	good := stand{now: exampleLot, past: slices.Repeat([]lot{exampleLot}, 8)}
	for _, bad := range fewBadPlaces() {
		list = append(list, impl.Desk{Now: bad})
		d := good.desk()
		d.Now = bad
		list = append(list, d)
	}
	for i, bad := range fewBadPlaces() {
		for past := 1; past <= 8; past++ {
			for at := range past {
				if i > 2 && past > 1 && past < 8 {
					continue // the first few are enough for each number of places of before
				}
				d := stand{now: exampleLot, past: good.past[:past]}.desk()
				d.Past[at] = bad
				list = append(list, d)
			}
		}
	}
	for _, past := range []int{9, 10, 16, 40} {
		list = append(list, stand{past: make([]lot, past)}.desk(), stand{now: exampleLot, past: slices.Repeat([]lot{exampleLot}, past)}.desk())
	}
	return list
}

func TestPromise106DesksCanForget(t *testing.T) {
	if !impl.DeskOk(impl.Desk{}) || !impl.DeskOk(impl.Desk{Past: []impl.Place{}}) {
		t.Fatal("the desk of no quotes is none")
	}
	for _, x := range someStands() {
		if d := x.desk(); !impl.DeskOk(d) {
			t.Fatalf("DeskOk(%v) = false", d)
		}
		for ; len(x.past) > 0; x.past = x.past[1:] {
			if d := x.desk(); !impl.DeskOk(d) {
				t.Fatalf("DeskOk(%v) = false", d)
			}
		}
		if d := x.desk(); !impl.DeskOk(d) {
			t.Fatalf("without any of before DeskOk(%v) = false", d)
		}
	}
	for past := range 12 {
		for _, x := range []lot{{}, exampleLot} {
			d := stand{now: x, past: slices.Repeat([]lot{x}, past)}.desk()
			if ok := impl.DeskOk(d); ok != (past <= 8) {
				t.Errorf("with %d of before DeskOk = %t", past, ok)
			}
		}
	}
	for _, d := range badDesks() {
		if impl.DeskOk(d) {
			t.Fatalf("DeskOk(%v)", d)
		}
	}
}

func TestPromise107NewDesksHaveOnePlace(t *testing.T) {
	for _, x := range someLots() {
		d, ok := impl.DeskNew(x.place())
		if !ok || !impl.DeskOk(d) {
			t.Fatalf("DeskNew(%v) = %v, %t", x.place(), d, ok)
		}
		checkDesk(t, d, stand{now: x})
	}
	eachBadPlace(func(p impl.Place) {
		d, ok := impl.DeskNew(p)
		if ok {
			t.Fatalf("DeskNew(%v) = %v", p, d)
		}
		checkNoDesk(t, d)
	})
}

// roomOf returns a row with room behind it, which holds other items.
func roomOf[T any](row []T, other T) []T {
	return append(slices.Clone(row), other, other, other)[:len(row)]
}

// roomyPlace returns the lot as a place whose rows have room behind them, which holds what is no quote and no stake.
func (x lot) roomyPlace() impl.Place {
	return impl.Place{Book: roomOf(x.quotes[:x.count], impl.Quote{Event: 77, Price: 77}), Stakes: roomOf(x.stakes[:x.count], 77)}
}

// roomyDesk returns the stand as a desk with room behind each row, the one of places as well.
func (x stand) roomyDesk() impl.Desk {
	d := impl.Desk{Now: x.now.roomyPlace()}
	for _, before := range x.past {
		d.Past = append(d.Past, before.roomyPlace())
	}
	for i := range 3 {
		d.Past = append(d.Past, impl.Place{Book: []impl.Quote{{Event: 88, Price: i}}, Stakes: []int{88}})
	}
	d.Past = d.Past[:len(x.past)]
	return d
}

// wholePlace returns a copy of a place, with what is in the room behind its rows.
func wholePlace(p impl.Place) impl.Place {
	return impl.Place{Book: slices.Clone(p.Book[:cap(p.Book)]), Stakes: slices.Clone(p.Stakes[:cap(p.Stakes)])}
}

// wholeDesk returns a copy of a desk, with what is in the room behind its rows.
func wholeDesk(d impl.Desk) impl.Desk {
	whole := impl.Desk{Now: wholePlace(d.Now)}
	for _, p := range d.Past[:cap(d.Past)] {
		whole.Past = append(whole.Past, wholePlace(p))
	}
	return whole
}

// span is the memory of a row, with the room behind it: from a first byte on, up to where it ends.
type span struct{ from, to uintptr }

// spanOf returns the memory of a row; none for one without room.
func spanOf[T any](row []T) []span {
	if cap(row) == 0 {
		return nil
	}
	from := uintptr(unsafe.Pointer(unsafe.SliceData(row)))
	return []span{{from, from + uintptr(cap(row))*unsafe.Sizeof(row[:1][0])}}
}

// spansOfPlace returns the memory of a place.
func spansOfPlace(p impl.Place) []span {
	return append(spanOf(p.Book), spanOf(p.Stakes)...)
}

// spansOfDesk returns the memory of a desk, also that of places in the room behind those of before.
func spansOfDesk(d impl.Desk) []span {
	list := append(spansOfPlace(d.Now), spanOf(d.Past)...)
	for _, p := range d.Past[:cap(d.Past)] {
		list = append(list, spansOfPlace(p)...)
	}
	return list
}

// checkApart tests that no two pieces of memory have a byte in common.
func checkApart(t *testing.T, list []span) {
	t.Helper()
	slices.SortFunc(list, func(a span, b span) int {
		return int(a.from) - int(b.from)
	})
	for i := 1; i < len(list); i++ {
		if list[i].from < list[i-1].to {
			t.Fatal("memory is shared")
		}
	}
}

// checkNewDesks tests that a function of a desk writes to nothing of it, and that its results share memory neither with it, nor with each other, nor one place of them with another one.
func checkNewDesks(t *testing.T, x stand, call func(d impl.Desk) impl.Desk) {
	t.Helper()
	d := x.roomyDesk()
	before := wholeDesk(d)
	results := []impl.Desk{d, call(d), call(d)}
	if !reflect.DeepEqual(wholeDesk(d), before) {
		t.Fatalf("%v was written to: %v", before, wholeDesk(d))
	}
	if !sameDesks(results[1], results[2]) {
		t.Fatalf("results differ: %v %v", results[1], results[2])
	}
	var list []span
	for _, result := range results {
		list = append(list, spansOfDesk(result)...)
	}
	checkApart(t, list)
}

func TestPlacesAreNewMemory(t *testing.T) {
	for _, x := range someLots() {
		p := x.roomyPlace()
		before := wholePlace(p)
		first, _ := impl.DeskNew(p)
		second, _ := impl.DeskNew(p)
		impl.PlaceOk(p)
		impl.DeskOk(impl.Desk{Now: p, Past: []impl.Place{p, p}})
		text := impl.PlaceText(p)
		impl.StoreNew(p)
		third, _ := impl.ReadPlace(text)
		fourth, _ := impl.ReadPlace(text)
		if !reflect.DeepEqual(wholePlace(p), before) {
			t.Fatalf("%v was written to: %v", before, wholePlace(p))
		}
		checkApart(t, slices.Concat(spansOfPlace(p), spansOfDesk(first), spansOfDesk(second), spansOfPlace(third), spansOfPlace(fourth)))
		for i := range third.Book {
			third.Book[i], third.Stakes[i] = impl.Quote{Event: 1, Price: 6}, 9
		}
		fifth, _ := impl.ReadPlace(text)
		checkPlace(t, fifth, x)
	}
	eachBadPlace(func(p impl.Place) {
		before := wholePlace(p)
		impl.PlaceOk(p)
		impl.PlaceText(p)
		impl.DeskNew(p)
		impl.StoreNew(p)
		if !reflect.DeepEqual(wholePlace(p), before) {
			t.Fatalf("%v was written to: %v", before, wholePlace(p))
		}
	})
}
