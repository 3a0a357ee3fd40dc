package tests

import (
	"fmt"
	"math"
	"reflect"
	"regexp"
	"slices"
	"strconv"
	"strings"
	"sync"
	"testing"

	"loop.example/fairbooks/impl"
)

// termWords has texts of terms: of all events, and others in many spellings.
var termWords = func() []string {
	list := slices.Clone(eventTexts)
	for _, c := range textCases {
		list = append(list, c.text)
	}
	return append(list, strings.Repeat("!", 39)+"a", "!("+strings.Repeat("a&(", 18)+"a&b"+strings.Repeat(")", 18)+")")
}()

// noWords has texts that are those of no terms: empty ones, in other spellings, with spaces, in brackets, of too many marks or bytes, and with other bytes.
var noWords = []string{
	"", " ", "(", ")", "()", "c", "A", "ab", "a&", "&a", "!", "|", "a b", "a &b", "a& b", " a", "a ", "a  ", "\ta", "a\n", "\na", "a\x00", "\xff", "a\xff", "ａ",
	"(a)", "((a))", "(a&b)", "(a|b)", "!(a)", "!(!a)", "a|(b&a)", "(a&b)|a", "(a&b)&a", "(a|b)|a", "a&&b", "a||b", "a&b&", "a AND b", "a,b", "a:b", "0", "10", "a0", "a|b 2", "quote a 1",
	strings.Repeat("!", 40) + "a", strings.Repeat("!", 119) + "a", strings.Repeat("!", 120) + "a", strings.Repeat("a|", 20) + "a", strings.Repeat("(", 100000), strings.Repeat("a ", 100000),
}

// farNumbers has numbers that no deed may have, up to the least and the greatest integers.
var farNumbers = []int{math.MinInt, math.MinInt + 1, math.MinInt32, -101, -100, 100, 101, 1000, math.MaxInt32, 1 << 32, 1<<32 + 1, math.MaxInt - 1, math.MaxInt}

// farKinds has numbers that are no kinds of deeds.
var farKinds = []int{math.MinInt, math.MinInt + 1, -2, -1, 5, 6, 99, 1 << 32, 1<<32 + 1, 1<<32 + 4, math.MaxInt - 1, math.MaxInt}

// eventOfText tells by splitting a text the event of the term whose text it is; -1 if it is none.
func eventOfText(text string) int {
	if len(text) > 120 || termBySplit(text) == nil {
		return -1 // a text that is too long would take long to split
	}
	x, _ := split(text)
	return x.event()
}

// after tells by the words of the document what DeskDo has to return for a desk and a deed.
func (x stand) after(a impl.Deed) (stand, bool) {
	if a.Kind == impl.DkBack {
		last := len(x.past) - 1
		if last < 0 || a != (impl.Deed{Kind: 4}) {
			return x, false
		}
		return stand{now: x.past[last], past: slices.Clone(x.past[:last])}, true
	}
	now, ok := x.now.after(a)
	if !ok || now == x.now || !isPlace(now.place()) {
		return x, false
	}
	past := append(slices.Clone(x.past), x.now)
	if len(past) > 8 {
		past = past[1:]
	}
	return stand{now: now, past: past}, true
}

// after tells of a place what a deed makes of it, which may be no place then, or the same one; and whether there is such a quote and such a term, and nothing is told that is not named.
func (x lot) after(a impl.Deed) (lot, bool) {
	has := a.A >= 0 && a.A < x.count
	switch a.Kind {
	case impl.DkQuote:
		event := eventOfText(a.Words)
		if event < 0 || a.B != 0 || x.count == 3 {
			return x, false
		}
		x.quotes[x.count] = impl.Quote{Event: event, Price: a.A}
		x.count++
		return x, true
	case impl.DkPrice:
		if has {
			x.quotes[a.A].Price = a.B
		}
		return x, has && a.Words == ""
	case impl.DkTake:
		if has {
			x.stakes[a.A] += a.B
		}
		return x, has && a.Words == "" && -99 <= a.B && a.B <= 99
	case impl.DkDrop:
		left := lot{}
		for i := range x.count {
			if i != a.A {
				left.quotes[left.count], left.stakes[left.count] = x.quotes[i], x.stakes[i]
				left.count++
			}
		}
		return left, has && a.Words == "" && a.B == 0
	}
	return x, false
}

// drawDeed draws a deed that can be done at many desks, also at places past the last quote.
func drawDeed(draw func(below int) int) impl.Deed {
	switch draw(8) {
	case 0, 1:
		return impl.Deed{Kind: impl.DkQuote, A: draw(7), Words: termWords[draw(len(termWords))]}
	case 2:
		return impl.Deed{Kind: impl.DkPrice, A: draw(3), B: draw(7)}
	case 3, 4, 5:
		return impl.Deed{Kind: impl.DkTake, A: draw(4), B: draw(13) - 6}
	case 6:
		return impl.Deed{Kind: impl.DkDrop, A: draw(4)}
	}
	return impl.Deed{Kind: impl.DkBack}
}

// drawDeeds draws so many deeds.
func drawDeeds(draw func(below int) int, count int) []impl.Deed {
	list := make([]impl.Deed, count)
	for i := range list {
		list[i] = drawDeed(draw)
	}
	return list
}

// triedDeeds returns the deeds that are tried at each desk: those of each kind around all bounds, with what is not named as well, and of kinds that are none.
var triedDeeds = sync.OnceValue(func() []impl.Deed {
	var list []impl.Deed
	for i, words := range eventTexts {
		for _, price := range prices {
			if (i+price)%3 == 0 {
				list = append(list, impl.Deed{Kind: impl.DkQuote, A: price, Words: words})
			}
		}
	}
	for i, words := range termWords[16:] {
		list = append(list, impl.Deed{Kind: impl.DkQuote, A: i % 7, Words: words})
	}
	for i, words := range noWords {
		list = append(list, impl.Deed{Kind: impl.DkQuote, A: i % 7, Words: words}, impl.Deed{Kind: impl.DkPrice, B: i % 7, Words: words}, impl.Deed{Kind: impl.DkTake, B: 1, Words: words}, impl.Deed{Kind: impl.DkDrop, Words: words}, impl.Deed{Kind: impl.DkBack, Words: words})
	}
	for at := -1; at <= 3; at++ {
		for price := -1; price <= 7; price++ {
			list = append(list, impl.Deed{Kind: impl.DkPrice, A: at, B: price})
		}
		for _, stake := range []int{-99, -19, -18, -17, -10, -9, -8, -1, 0, 1, 2, 7, 8, 9, 10, 17, 18, 19, 99} {
			list = append(list, impl.Deed{Kind: impl.DkTake, A: at, B: stake})
		}
		for b := -1; b <= 1; b++ {
			list = append(list, impl.Deed{Kind: impl.DkDrop, A: at, B: b}, impl.Deed{Kind: impl.DkBack, A: at, B: b}, impl.Deed{Kind: impl.DkQuote, A: at + 2, B: b, Words: "a&b"})
		}
	}
	for _, far := range append(slices.Clone(farNumbers), -1, 7, 8) {
		for kind := range 5 {
			for _, words := range []string{"", "a&b"} {
				list = append(list, impl.Deed{Kind: kind, A: far, Words: words}, impl.Deed{Kind: kind, B: far, Words: words}, impl.Deed{Kind: kind, A: far, B: far, Words: words})
			}
		}
	}
	for _, kind := range farKinds {
		for _, a := range []impl.Deed{{}, {A: 1, Words: "a"}, {A: 1, B: 1}, {B: 1}} {
			a.Kind = kind
			list = append(list, a)
		}
	}
	return list
})

// checkDone tests what promise 104 says of a desk after a deed that is done.
func checkDone(t *testing.T, x stand, a impl.Deed, d impl.Desk) {
	t.Helper()
	if !impl.DeskOk(d) || !impl.FairOk(4, d.Now.Book) || !impl.SafeOk(4, d.Now.Book) {
		t.Fatalf("%v after %v is the desk %v", x.desk(), a, d)
	}
	if a.Kind != impl.DkBack && len(x.past) < 8 {
		back, ok := impl.DeskDo(d, impl.Deed{Kind: impl.DkBack})
		if !ok {
			t.Fatalf("behind %v nothing is put back at %v", a, d)
		}
		checkDesk(t, back, x)
	}
	if a.Kind == impl.DkTake {
		m, _ := impl.FirstMeasure(4, d.Now.Book)
		sum, _ := impl.BalanceOf(4, d.Now.Book, d.Now.Stakes)
		if brings, ok := impl.BringsBy(m, sum); !ok || brings != 0 {
			t.Fatalf("at %v the balance brings %d, %t by %v", d, brings, ok, m)
		}
	}
}

// checkDeed tests what DeskDo returns for a desk and a deed, and what promise 104 says of it; it tells whether the deed was done.
func checkDeed(t *testing.T, x stand, a impl.Deed) bool {
	t.Helper()
	want, wantOk := x.after(a)
	d, ok := impl.DeskDo(x.desk(), a)
	if ok != wantOk || !sameDesks(d, want.desk()) {
		t.Fatalf("DeskDo(%v, %v) = %v, %t, not %v, %t", x.desk(), a, d, ok, want.desk(), wantOk)
	}
	if ok {
		checkDone(t, x, a, d)
	}
	return ok
}

func TestPromise104WhatWasDoneCanBeUndone(t *testing.T) {
	done, refused := [5]int{}, [5]int{}
	for _, x := range someStands() {
		for _, a := range triedDeeds() {
			ok := checkDeed(t, x, a)
			switch {
			case a.Kind < 0 || a.Kind > 4:
			case ok:
				done[a.Kind]++
			default:
				refused[a.Kind]++
			}
		}
	}
	if slices.Min(done[:]) < 20 || slices.Min(refused[:]) < 1000 {
		t.Errorf("deeds done %v, and not done %v", done, refused)
	}
	draw := drawer(104)
	for _, x := range someStands() {
		for range 30 {
			a := drawDeed(draw)
			checkDeed(t, x, a)
			x, _ = x.after(a)
		}
	}
}

// TestBooksStayFair: a further quote for each event, and a new price for each quote, is done at just the prices that leave the book fair.
func TestBooksStayFair(t *testing.T) {
	fair, unfair := 0, 0
	for i, x := range someLots() {
		if i%4 != 0 && x.count > 0 || x.count == 3 {
			continue
		}
		for event, words := range eventTexts {
			for _, price := range prices {
				ok := checkDeed(t, stand{now: x}, impl.Deed{Kind: impl.DkQuote, A: price, Words: words})
				if ok != impl.FurtherOk(4, x.place().Book, impl.Quote{Event: event, Price: price}) {
					t.Fatalf("at %v %q at %d is done: %t", x.place(), words, price, ok)
				}
				if ok {
					fair++
				} else {
					unfair++
				}
			}
		}
	}
	if fair < 500 || unfair < 500 {
		t.Errorf("%d further quotes are fair, and %d are not", fair, unfair)
	}
}

func TestDeedsAtNoDesk(t *testing.T) {
	for _, bad := range badDesks() {
		for _, a := range []impl.Deed{{Words: "a"}, {Kind: impl.DkPrice, B: 1}, {Kind: impl.DkTake, B: 1}, {Kind: impl.DkDrop}, {Kind: impl.DkBack}, {Kind: 5}, {}} {
			d, ok := impl.DeskDo(bad, a)
			if ok {
				t.Fatalf("DeskDo(%v, %v) = %v", bad, a, d)
			}
			checkNoDesk(t, d)
			if d, done := impl.DeskRun(bad, []impl.Deed{a}); done != 0 || !sameDesks(d, impl.Desk{}) {
				t.Fatalf("DeskRun(%v, {%v}) = %v, %d", bad, a, d, done)
			}
		}
		if d, done := impl.DeskRun(bad, nil); done != 0 || !sameDesks(d, impl.Desk{}) {
			t.Fatalf("DeskRun(%v, nothing) = %v, %d", bad, d, done)
		}
	}
}

// deedCase has a deed, whether it is done, and the text of the place then.
type deedCase struct {
	deed  impl.Deed
	done  bool
	place string
}

// checkCases tests one deed after the other, each at the desk that those before it leave.
func checkCases(t *testing.T, d impl.Desk, list []deedCase) impl.Desk {
	t.Helper()
	for i, c := range list {
		next, ok := impl.DeskDo(d, c.deed)
		if text := impl.PlaceText(next.Now); ok != c.done || text != c.place {
			t.Fatalf("%d: after %v it is %q, %t, not %q", i, c.deed, text, ok, c.place)
		}
		d = next
	}
	return d
}

func TestSomeDeeds(t *testing.T) {
	d, _ := impl.DeskNew(impl.Place{})
	d = checkCases(t, d, []deedCase{
		{impl.Deed{Kind: impl.DkBack}, false, "."}, // without places of before
		{impl.Deed{Kind: impl.DkDrop}, false, "."}, // there is no quote
		{impl.Deed{Kind: impl.DkPrice}, false, "."},
		{impl.Deed{Kind: impl.DkTake, B: 1}, false, "."},
		{impl.Deed{Kind: impl.DkQuote, A: 2, Words: ""}, false, "."},
		{impl.Deed{Kind: impl.DkQuote, A: 2, Words: "(a)"}, false, "."}, // no text of a term
		{impl.Deed{Kind: impl.DkQuote, A: 7, Words: "a"}, false, "."},
		{impl.Deed{Kind: impl.DkQuote, A: -1, Words: "a"}, false, "."},
		{impl.Deed{Kind: impl.DkQuote, A: 2, B: 1, Words: "a"}, false, "."}, // B is not named
		{impl.Deed{Kind: impl.DkQuote, A: 1, Words: "a&!a"}, false, "."},    // never, at more than nothing
		{impl.Deed{Kind: impl.DkQuote, A: 5, Words: "a|!a"}, false, "."},    // always, at less than the whole
		{impl.Deed{Kind: impl.DkQuote, A: 2, Words: "a"}, true, "10:2:0"},
		{impl.Deed{Kind: impl.DkPrice, A: 0, B: 2}, false, "10:2:0"}, // the same price
		{impl.Deed{Kind: impl.DkPrice, A: 0, B: 7}, false, "10:2:0"},
		{impl.Deed{Kind: impl.DkPrice, A: 0, B: -1}, false, "10:2:0"},
		{impl.Deed{Kind: impl.DkPrice, A: 1, B: 3}, false, "10:2:0"}, // past the last quote
		{impl.Deed{Kind: impl.DkPrice, A: -1, B: 3}, false, "10:2:0"},
		{impl.Deed{Kind: impl.DkPrice, A: 0, B: 3, Words: "a"}, false, "10:2:0"},
		{impl.Deed{Kind: impl.DkTake, A: 0, B: 0}, false, "10:2:0"}, // the same stake
		{impl.Deed{Kind: impl.DkTake, A: 0, B: 10}, false, "10:2:0"},
		{impl.Deed{Kind: impl.DkTake, A: 0, B: 9, Words: "a"}, false, "10:2:0"},
		{impl.Deed{Kind: impl.DkTake, A: 0, B: 9}, true, "10:2:9"},
		{impl.Deed{Kind: impl.DkTake, A: 0, B: 1}, false, "10:2:9"}, // past MaxStake
		{impl.Deed{Kind: impl.DkTake, A: 0, B: -18}, true, "10:2:-9"},
		{impl.Deed{Kind: impl.DkTake, A: 0, B: -1}, false, "10:2:-9"},
		{impl.Deed{Kind: impl.DkTake, A: 0, B: 99}, false, "10:2:-9"},
		{impl.Deed{Kind: impl.DkTake, A: 0, B: -99}, false, "10:2:-9"},
		{impl.Deed{Kind: impl.DkTake, A: 0, B: 100}, false, "10:2:-9"},
		{impl.Deed{Kind: impl.DkTake, A: 0, B: -100}, false, "10:2:-9"},
		{impl.Deed{Kind: impl.DkTake, A: 0, B: math.MinInt}, false, "10:2:-9"},
		{impl.Deed{Kind: impl.DkTake, A: 1, B: 1}, false, "10:2:-9"},
		{impl.Deed{Kind: impl.DkQuote, A: 3, Words: "a&b"}, false, "10:2:-9"}, // the book would be unfair
		{impl.Deed{Kind: impl.DkQuote, A: 2, Words: "a"}, true, "10:2:-9,10:2:0"},
		{impl.Deed{Kind: impl.DkPrice, A: 1, B: 3}, false, "10:2:-9,10:2:0"},
		{impl.Deed{Kind: impl.DkQuote, A: 1, Words: "b&a"}, true, "10:2:-9,10:2:0,8:1:0"},
		{impl.Deed{Kind: impl.DkQuote, A: 1, Words: "b&a"}, false, "10:2:-9,10:2:0,8:1:0"}, // one more than MaxQuotes
		{impl.Deed{Kind: impl.DkDrop, A: 3}, false, "10:2:-9,10:2:0,8:1:0"},
		{impl.Deed{Kind: impl.DkDrop, A: 1, B: 1}, false, "10:2:-9,10:2:0,8:1:0"},
		{impl.Deed{Kind: impl.DkDrop, A: 1, Words: "a"}, false, "10:2:-9,10:2:0,8:1:0"},
		{impl.Deed{Kind: impl.DkDrop, A: 1}, true, "10:2:-9,8:1:0"},
		{impl.Deed{Kind: impl.DkTake, A: 1, B: 4}, true, "10:2:-9,8:1:4"},
		{impl.Deed{Kind: impl.DkDrop, A: 0}, true, "8:1:4"},
		{impl.Deed{Kind: impl.DkPrice, A: 0, B: 6}, true, "8:6:4"},
	})
	if len(d.Past) != 8 || impl.PlaceText(d.Past[0]) != "10:2:0" {
		t.Fatalf("of before there are %v", d.Past) // of the nine places of before the first one, without quotes, is gone
	}
	d = checkCases(t, d, []deedCase{
		{impl.Deed{Kind: impl.DkBack, A: 1}, false, "8:6:4"},
		{impl.Deed{Kind: impl.DkBack, B: 1}, false, "8:6:4"},
		{impl.Deed{Kind: impl.DkBack, Words: "a"}, false, "8:6:4"},
		{impl.Deed{Kind: impl.DkBack}, true, "8:1:4"},
		{impl.Deed{Kind: impl.DkBack}, true, "10:2:-9,8:1:4"},
		{impl.Deed{Kind: impl.DkBack}, true, "10:2:-9,8:1:0"},
		{impl.Deed{Kind: impl.DkBack}, true, "10:2:-9,10:2:0,8:1:0"},
		{impl.Deed{Kind: impl.DkBack}, true, "10:2:-9,10:2:0"},
		{impl.Deed{Kind: impl.DkBack}, true, "10:2:-9"},
		{impl.Deed{Kind: impl.DkBack}, true, "10:2:9"},
		{impl.Deed{Kind: impl.DkBack}, true, "10:2:0"},
		{impl.Deed{Kind: impl.DkBack}, false, "10:2:0"}, // behind MaxPast deeds that are undone nothing is left
		{impl.Deed{Kind: impl.DkDrop}, true, "."},
		{impl.Deed{Kind: impl.DkBack}, true, "10:2:0"},
		{impl.Deed{Kind: 5}, false, "10:2:0"},
		{impl.Deed{Kind: -1}, false, "10:2:0"},
	})
	if len(d.Past) != 0 {
		t.Errorf("of before there are %v", d.Past)
	}
}

// textByWords tells by the words of the document what DeedText has to return.
func textByWords(a impl.Deed) string {
	if a.A < 0 || a.A > 99 {
		return ""
	}
	switch {
	case a.Kind == 0 && a.B == 0 && eventOfText(a.Words) >= 0:
		return fmt.Sprintf("quote %s %d", a.Words, a.A)
	case a.Kind == 1 && a.Words == "" && a.B >= 0 && a.B <= 99:
		return fmt.Sprintf("price %d %d", a.A, a.B)
	case a.Kind == 2 && a.Words == "" && a.B >= -99 && a.B <= 99:
		return fmt.Sprintf("take %d %d", a.A, a.B)
	case a.Kind == 3 && a.Words == "" && a.B == 0:
		return fmt.Sprintf("drop %d", a.A)
	case a == impl.Deed{Kind: 4}:
		return "back"
	}
	return ""
}

// toldNumber has how a number in 0..99 is written.
const toldNumber = "(0|[1-9][0-9]?)"

// deedPattern fits the texts of all deeds, and those that have something else for a term.
var deedPattern = regexp.MustCompile("^(?:(quote) ([^ ]*) " + toldNumber + "|(price) " + toldNumber + " " + toldNumber + "|(take) " + toldNumber + " (0|-?[1-9][0-9]?)|(drop) " + toldNumber + "|(back))$")

// deedByPattern tells by a pattern what ReadDeed has to return.
func deedByPattern(text string) (impl.Deed, bool) {
	parts := deedPattern.FindStringSubmatch(text)
	number := func(i int) int {
		n, _ := strconv.Atoi(parts[i])
		return n
	}
	switch {
	case parts == nil || parts[1] != "" && eventOfText(parts[2]) < 0:
		return impl.Deed{}, false
	case parts[1] != "":
		return impl.Deed{Kind: impl.DkQuote, A: number(3), Words: parts[2]}, true
	case parts[4] != "":
		return impl.Deed{Kind: impl.DkPrice, A: number(5), B: number(6)}, true
	case parts[7] != "":
		return impl.Deed{Kind: impl.DkTake, A: number(8), B: number(9)}, true
	case parts[10] != "":
		return impl.Deed{Kind: impl.DkDrop, A: number(11)}, true
	}
	return impl.Deed{Kind: impl.DkBack}, true
}

// checkDeedRead tests what ReadDeed returns for a text, and what promise 109 says of it; it tells whether the text is read.
func checkDeedRead(t *testing.T, text string) bool {
	t.Helper()
	want, wantOk := deedByPattern(text)
	a, ok := impl.ReadDeed(text)
	if ok != wantOk || a != want {
		t.Fatalf("ReadDeed(%q) = %v, %t, not %v, %t", text, a, ok, want, wantOk)
	}
	if !ok {
		return false
	}
	if again := impl.DeedText(a); again != text {
		t.Fatalf("%q is read as %v, whose text is %q", text, a, again)
	}
	for _, longer := range []string{text + " ", text + "\n", " " + text, text + "\x00"} {
		if a, ok := impl.ReadDeed(longer); ok || a != (impl.Deed{}) {
			t.Fatalf("ReadDeed(%q) = %v, %t", longer, a, ok)
		}
	}
	return true
}

// eachToldDeed calls a function with deeds of all kinds with all numbers that can be told, and one past these.
func eachToldDeed(do func(a impl.Deed)) {
	for first := -1; first <= 100; first++ {
		for second := -100; second <= 100; second++ {
			for kind := 1; kind <= 3; kind++ {
				do(impl.Deed{Kind: kind, A: first, B: second})
			}
		}
		for _, words := range append(slices.Clone(termWords), noWords[:45]...) {
			do(impl.Deed{Kind: impl.DkQuote, A: first, Words: words})
		}
		do(impl.Deed{Kind: impl.DkBack, A: first})
		do(impl.Deed{Kind: impl.DkBack, B: first})
	}
	for _, a := range triedDeeds() {
		do(a)
	}
}

func TestPromise108TextsOfDeedsAreRead(t *testing.T) {
	told := [5]int{}
	eachToldDeed(func(a impl.Deed) {
		text := impl.DeedText(a)
		if want := textByWords(a); text != want {
			t.Fatalf("DeedText(%v) = %q, not %q", a, text, want)
		}
		if text == "" {
			return
		}
		told[a.Kind]++
		if read, ok := impl.ReadDeed(text); !ok || read != a {
			t.Fatalf("%v has the text %q, which is read as %v, %t", a, text, read, ok)
		}
	})
	if told[0] < 100*len(termWords) || told[1] < 10000 || told[2] < 19900 || told[3] < 100 || told[4] < 1 {
		t.Errorf("texts of deeds by their kinds: %v", told)
	}
}

// TestWhatIsDoneHasAText: each deed that can be done is told by a text, so that a log can have it.
func TestWhatIsDoneHasAText(t *testing.T) {
	for _, x := range someStands() {
		for _, a := range triedDeeds() {
			if _, ok := x.after(a); ok && impl.DeedText(a) == "" {
				t.Fatalf("at %v %v is done, but has no text", x.desk(), a)
			}
		}
	}
}

func TestSomeTextsOfDeeds(t *testing.T) {
	for _, c := range []struct {
		deed impl.Deed
		text string
	}{
		{impl.Deed{Kind: impl.DkQuote, A: 2, Words: "a|b"}, "quote a|b 2"},
		{impl.Deed{Kind: impl.DkQuote, A: 0, Words: "a"}, "quote a 0"},
		{impl.Deed{Kind: impl.DkQuote, A: 99, Words: "!(a|b)&a"}, "quote !(a|b)&a 99"}, // no price, but a text
		{impl.Deed{Kind: impl.DkQuote, A: 100, Words: "a"}, ""},
		{impl.Deed{Kind: impl.DkQuote, A: -1, Words: "a"}, ""},
		{impl.Deed{Kind: impl.DkQuote, A: 2, B: 1, Words: "a"}, ""},
		{impl.Deed{Kind: impl.DkQuote, A: 2}, ""},
		{impl.Deed{}, ""},
		{impl.Deed{Kind: impl.DkQuote, A: 2, Words: "(a)"}, ""},
		{impl.Deed{Kind: impl.DkQuote, A: 2, Words: "a b"}, ""},
		{impl.Deed{Kind: impl.DkQuote, A: 2, Words: strings.Repeat("!", 39) + "a"}, "quote " + strings.Repeat("!", 39) + "a 2"},
		{impl.Deed{Kind: impl.DkQuote, A: 2, Words: strings.Repeat("!", 40) + "a"}, ""},
		{impl.Deed{Kind: impl.DkPrice}, "price 0 0"},
		{impl.Deed{Kind: impl.DkPrice, A: 99, B: 99}, "price 99 99"},
		{impl.Deed{Kind: impl.DkPrice, A: 100, B: 99}, ""},
		{impl.Deed{Kind: impl.DkPrice, A: 99, B: 100}, ""},
		{impl.Deed{Kind: impl.DkPrice, A: 1, B: -1}, ""},
		{impl.Deed{Kind: impl.DkPrice, A: -1, B: 1}, ""},
		{impl.Deed{Kind: impl.DkPrice, A: 1, B: 1, Words: "a"}, ""},
		{impl.Deed{Kind: impl.DkTake, A: 1, B: -3}, "take 1 -3"},
		{impl.Deed{Kind: impl.DkTake}, "take 0 0"},
		{impl.Deed{Kind: impl.DkTake, A: 99, B: 99}, "take 99 99"},
		{impl.Deed{Kind: impl.DkTake, A: 99, B: -99}, "take 99 -99"},
		{impl.Deed{Kind: impl.DkTake, A: 99, B: 100}, ""},
		{impl.Deed{Kind: impl.DkTake, A: 99, B: -100}, ""},
		{impl.Deed{Kind: impl.DkTake, A: 100}, ""},
		{impl.Deed{Kind: impl.DkTake, A: -1}, ""},
		{impl.Deed{Kind: impl.DkTake, B: math.MinInt}, ""},
		{impl.Deed{Kind: impl.DkTake, B: 1, Words: "a"}, ""},
		{impl.Deed{Kind: impl.DkDrop}, "drop 0"},
		{impl.Deed{Kind: impl.DkDrop, A: 99}, "drop 99"},
		{impl.Deed{Kind: impl.DkDrop, A: 100}, ""},
		{impl.Deed{Kind: impl.DkDrop, A: -1}, ""},
		{impl.Deed{Kind: impl.DkDrop, B: 1}, ""},
		{impl.Deed{Kind: impl.DkDrop, Words: "a"}, ""},
		{impl.Deed{Kind: impl.DkBack}, "back"},
		{impl.Deed{Kind: impl.DkBack, A: 1}, ""},
		{impl.Deed{Kind: impl.DkBack, B: 1}, ""},
		{impl.Deed{Kind: impl.DkBack, Words: "a"}, ""},
		{impl.Deed{Kind: 5}, ""},
		{impl.Deed{Kind: -1}, ""},
		{impl.Deed{Kind: math.MaxInt, A: 1, B: 1}, ""},
	} {
		if got := impl.DeedText(c.deed); got != c.text || got != textByWords(c.deed) {
			t.Errorf("DeedText(%v) = %q, not %q", c.deed, got, c.text)
		}
	}
}

func TestPromise109ReadTextsOfDeedsAreCanonical(t *testing.T) {
	draw, read, refused := drawer(109), 0, 0
	for range 4000 {
		text := textByWords(drawDeed(draw))
		if !checkDeedRead(t, text) {
			t.Fatalf("ReadDeed(%q) is told nothing", text)
		}
		if checkDeedRead(t, changed(draw, text)) {
			read++
		} else {
			refused++
		}
	}
	if read < 200 || refused < 1000 {
		t.Errorf("%d changed texts are read, and %d refused", read, refused)
	}
	for _, word := range []string{"quote", "price", "take", "drop", "back", "", "place", "quotes", "Back"} {
		for size := range 6 {
			for _, text := range textsOf(size, " 09-+a!") {
				checkDeedRead(t, word+text)
			}
		}
	}
}

func TestTextsThatAreNoDeeds(t *testing.T) {
	digits := strings.Repeat("9", 1000)
	for _, text := range []string{
		"", " ", "\n", "quote", "price", "take", "drop", "Back", "BACK", "bac", "backs", "back ", " back", "back\n", "back\r", "back 0", "back  ", "back\t", "\tback", "back back", "undo", "place", "first",
		"quote a", "quote 2", "quote a ", "quote  2", "quote a  2", "quote  a 2", "quote a 2 ", " quote a 2", "quote a 2\n", "quote a\t2", "quote\ta 2", "quote a 2 0", "quote a 2 2", "quote a b 2", "quote 2 a", "quote a a", "quote (a) 1", "quote a|(b&a) 1", "quote c 1", "quote A 1", "quote a& 1", "quote a&b", "quotea 1", "quote a1", "quote a 100", "quote a -1", "quote a -0", "quote a +1", "quote a 01", "quote a 00", "quote a 1.", "quote a 1e0", "quote a 0x1", "quote " + strings.Repeat("!", 40) + "a 1", "quote " + strings.Repeat("!", 100000) + "a 1",
		"price 0", "price 0 ", "price 0 1 ", "price 0  1", "price  0 1", "price 0 1 1", "price 0,1", "price 0\t1", "price 01 1", "price 1 01", "price 00 1", "price 1 00", "price +1 1", "price 1 +1", "price -0 1", "price 1 -0", "price -1 1", "price 1 -1", "price 100 1", "price 1 100", "price a 1", "price 1 a", "price a 1 1", "price 0 1\n", "price 0 1\x00", "price 0 １",
		"take 0", "take 0 ", "take 0 --1", "take 0 -0", "take 0 +1", "take 0 -01", "take 0 01", "take 0 - 1", "take 0 1-", "take -1 1", "take -0 1", "take 100 1", "take 0 100", "take 0 -100", "take 0 1 ", "take 0  1", "take  0 1", "take 0 1 0", "take 0 1\n", "take 0 -1 ", "take 0 0x1", "take a 1",
		"drop ", "drop  0", "drop 0 ", "drop 0 0", "drop 00", "drop 01", "drop -0", "drop -1", "drop +1", "drop 100", "drop a", "drop 0\n", "drop\n0", "drop0", "drop 0.", "drop 1_0",
		"drop 9223372036854775808", "drop 18446744073709551616", "drop 4294967296", "take 0 -9223372036854775808", "take 0 18446744073709551617", "price 4294967296 1", "price 0 18446744073709551617", "quote a 18446744073709551617",
		"drop " + digits, "take 0 " + digits, "take 0 -" + digits, "price " + digits + " 1", "quote a " + digits, "drop " + strings.Repeat("0", 1000) + "1",
		strings.Repeat(" ", 100000), strings.Repeat("back", 100000), strings.Repeat("back ", 100000), strings.Repeat("take 0 1 ", 100000), "quote " + strings.Repeat("a ", 100000) + "1",
	} {
		if checkDeedRead(t, text) {
			t.Errorf("%q is read", text)
		}
	}
	for _, words := range noWords {
		if checkDeedRead(t, "quote "+words+" 1") {
			t.Errorf("a quote for %q is read", words)
		}
	}
	for sign := range 256 {
		one := string([]byte{byte(sign)})
		for _, text := range []string{one, one + "back", "back" + one, "ba" + one + "k", "drop" + one + "1", "drop " + one, "drop 1" + one, "take 0 " + one + "1", "take 0 1" + one, "price " + one + " 1", "quote " + one + " 1", "quote a" + one + "1", "quote a 1" + one} {
			checkDeedRead(t, text)
		}
	}
}

// runOf tells what DeskRun has to return for a desk and deeds.
func (x stand) runOf(list []impl.Deed) (stand, int) {
	count := 0
	for _, a := range list {
		next, ok := x.after(a)
		if ok {
			count++
		}
		x = next
	}
	return x, count
}

// checkRun tests what DeskRun returns for a desk and at most MaxLines deeds.
func checkRun(t *testing.T, x stand, list []impl.Deed) stand {
	t.Helper()
	want, wantCount := x.runOf(list)
	d, count := impl.DeskRun(x.desk(), list)
	if count != wantCount || !sameDesks(d, want.desk()) || !impl.DeskOk(d) {
		t.Fatalf("DeskRun(%v, %v) = %v, %d, not %v, %d", x.desk(), list, d, count, want.desk(), wantCount)
	}
	return want
}

func TestPromise90WhateverIsDoneItIsAPlace(t *testing.T) {
	draw, done := drawer(90), 0
	for i, x := range someStands() {
		list := drawDeeds(draw, []int{0, 1, 5, 20, 40}[i%5])
		_, count := x.runOf(list)
		done += count
		checkRun(t, x, list)
		for _, at := range []int{0, len(list) / 3, len(list) - 1, len(list)} {
			if at < 0 {
				continue
			}
			middle := checkRun(t, x, list[:at])
			last := checkRun(t, middle, list[at:])
			whole, _ := x.runOf(list)
			checkDesk(t, last.desk(), whole)
		}
	}
	if done < 200 {
		t.Errorf("%d deeds were done", done)
	}
	checkRun(t, stand{now: exampleLot}, []impl.Deed{{}, {Kind: 9}, {Kind: impl.DkTake, B: math.MaxInt}, {Kind: impl.DkTake, B: 1, Words: "a"}, {Kind: impl.DkTake, B: 1}, {Kind: impl.DkBack, A: 1}})
	checkRun(t, stand{now: exampleLot}, triedDeeds()[:40])
}

func TestAtMostMaxLinesDeeds(t *testing.T) {
	for _, size := range []int{0, 1, 39, 40, 41, 42, 80, 1000} {
		var list []impl.Deed
		for i := range size {
			list = append(list, impl.Deed{Kind: impl.DkTake, B: 1 - 2*(i%2)})
		}
		d, done := impl.DeskRun(stand{now: exampleLot}.desk(), list)
		if size > 40 {
			checkNoDesk(t, d)
			size = 0
		}
		if done != size {
			t.Errorf("of %d deeds %d were done", len(list), done)
		}
	}
	if d, done := impl.DeskRun(impl.Desk{}, make([]impl.Deed, 41)); done != 0 || !sameDesks(d, impl.Desk{}) {
		t.Errorf("of 41 deeds that are none %d were done", done)
	}
}

// journalOf tells what JournalText has to return.
func journalOf(list []impl.Deed) string {
	text := ""
	for _, a := range list {
		if textByWords(a) == "" {
			return ""
		}
		text += textByWords(a) + "\n"
	}
	return text
}

// journalByLines tells by splitting a text at its newlines what ReadJournal has to return.
func journalByLines(text string) ([]impl.Deed, int) {
	var list []impl.Deed
	read := 0
	for _, line := range strings.SplitAfter(text, "\n") {
		inner, ends := strings.CutSuffix(line, "\n")
		a, ok := deedByPattern(inner)
		if !ends || !ok {
			break
		}
		list = append(list, a)
		read += len(line)
	}
	return list, read
}

// checkJournal tests what ReadJournal returns for a text.
func checkJournal(t *testing.T, text string) []impl.Deed {
	t.Helper()
	want, wantRead := journalByLines(text)
	list, read := impl.ReadJournal(text)
	if read != wantRead || !slices.Equal(list, want) {
		t.Fatalf("ReadJournal(%q) = %v, %d, not %v, %d", text, list, read, want, wantRead)
	}
	if again := impl.JournalText(list); again != text[:read] {
		t.Fatalf("of %q %d bytes are read, as %q", text, read, again)
	}
	return list
}

func TestPromise110JournalsAreRead(t *testing.T) {
	draw := drawer(110)
	for i := range 300 {
		list := drawDeeds(draw, i%50)
		text := impl.JournalText(list)
		if text != journalOf(list) || i%50 > 0 && text == "" {
			t.Fatalf("JournalText(%v) = %q", list, text)
		}
		if read, count := impl.ReadJournal(text); count != len(text) || !slices.Equal(read, list) {
			t.Fatalf("ReadJournal(%q) = %v, %d", text, read, count)
		}
		if len(list) == 0 {
			continue
		}
		// One deed without a text, in any place, leaves nothing of the others.
		tried := triedDeeds()
		for bad := tried[draw(len(tried))]; ; bad = tried[draw(len(tried))] {
			if textByWords(bad) == "" {
				list[draw(len(list))] = bad
				break
			}
		}
		if text := impl.JournalText(list); text != "" {
			t.Fatalf("JournalText(%v) = %q", list, text)
		}
	}
	if text := impl.JournalText(nil); text != "" {
		t.Errorf("the journal of no deeds is %q", text)
	}
	for _, a := range triedDeeds() {
		if text := impl.JournalText([]impl.Deed{a}); text != journalOf([]impl.Deed{a}) {
			t.Fatalf("JournalText({%v}) = %q", a, text)
		}
	}
	many := drawDeeds(draw, 20000) // a journal has no bound
	text := impl.JournalText(many)
	if read, count := impl.ReadJournal(text); count != len(text) || text == "" || !slices.Equal(read, many) {
		t.Errorf("of a journal of %d bytes %d are read", len(text), count)
	}
}

func TestPromise91WhereverAJournalIsCut(t *testing.T) {
	draw := drawer(91)
	stands := someStands()
	for i := range 60 {
		list := drawDeeds(draw, 1+i%12)
		text := journalOf(list)
		for cut := range len(text) + 1 {
			read := checkJournal(t, text[:cut])
			if want := strings.Count(text[:cut], "\n"); len(read) != want || !slices.Equal(read, list[:want]) {
				t.Fatalf("cut behind %d bytes %q is read as %v", cut, text, read)
			}
		}
		x := stands[i%len(stands)]
		run, _ := impl.DeskRun(x.desk(), list)
		lines := strings.Split(strings.TrimSuffix(text, "\n"), "\n")
		said, _ := impl.DeskSay(x.desk(), lines)
		if !sameDesks(run, said) {
			t.Fatalf("%v lead from %v to %v, and said to %v", list, x.desk(), run, said)
		}
		for range 20 {
			torn := changed(draw, text)
			checkJournal(t, torn)
			checkJournal(t, torn[draw(len(torn)+1):])
		}
	}
}

func TestTornJournals(t *testing.T) {
	for _, c := range []struct {
		text  string
		deeds int
		read  int
	}{
		{"", 0, 0},
		{"\n", 0, 0}, // an empty line
		{"\n\n", 0, 0},
		{"back", 0, 0}, // without a newline
		{"back\n", 1, 5},
		{"back\nback", 1, 5},
		{"back\nback\n", 2, 10},
		{"back\n\nback\n", 1, 5}, // two newlines in a row
		{"\nback\n", 0, 0},
		{"back\nx\nback\n", 1, 5}, // a line that is none among good ones
		{"back \nback\n", 0, 0},
		{"back\n back\n", 1, 5},
		{"back\r\nback\r\n", 0, 0},
		{"back\nback\r\n", 1, 5},
		{"take 0 -2\ndrop 1\nba", 2, 17},
		{"take 0 -2\ndrop 1\nback\n", 3, 22},
		{"take 0 -2\ndrop 01\nback\n", 1, 10},
		{"take 0 -0\ndrop 1\n", 0, 0},
		{"quote a 1\nquote (a) 1\nquote b 1\n", 1, 10},
		{"price 0 1\nprice 0  1\n", 1, 10},
		{"price 99 99\ntake 99 -99\ndrop 99\n", 3, 32},
		{"price 99 99\ntake 99 -100\ndrop 99\n", 1, 12},
		{"back\nplace\n", 1, 5}, // a question is no deed
		{"back\n\x00", 1, 5},
		{"back\n\xff\n", 1, 5},
	} {
		list, read := impl.ReadJournal(c.text)
		if len(list) != c.deeds || read != c.read {
			t.Errorf("ReadJournal(%q) = %v, %d", c.text, list, read)
		}
		checkJournal(t, c.text)
	}
	for size := range 7 {
		for _, text := range textsOf(size, "back\n 0") {
			checkJournal(t, text)
			checkJournal(t, "back\n"+text)
		}
	}
	for sign := range 256 {
		one := string([]byte{byte(sign)})
		for _, text := range []string{one, "back" + one, "back\n" + one, "back" + one + "\n", one + "back\n", "back\n" + one + "back\n", "back\ndrop" + one + "1\n", "back\n" + one + "\nback\n"} {
			checkJournal(t, text)
		}
	}
	for _, text := range []string{strings.Repeat("\n", 100000), strings.Repeat("back", 100000), strings.Repeat("back\n", 20000) + "bac", strings.Repeat("back\n", 20000) + strings.Repeat("!", 100000)} {
		checkJournal(t, text)
	}
}

func TestDeedsAreNewMemory(t *testing.T) {
	deeds := []impl.Deed{{Words: "a&b", A: 1}, {Kind: impl.DkPrice, B: 1}, {Kind: impl.DkTake, B: 1}, {Kind: impl.DkTake, B: -1}, {Kind: impl.DkDrop}, {Kind: impl.DkBack}, {Kind: impl.DkBack, A: 1}, {Kind: 5}, {Words: "(a)"}, {Kind: impl.DkTake, A: 3, B: 1}}
	for _, x := range someStands() {
		for _, a := range deeds {
			checkNewDesks(t, x, func(d impl.Desk) impl.Desk {
				next, _ := impl.DeskDo(d, a)
				return next
			})
		}
		for _, list := range [][]impl.Deed{nil, deeds[:1], deeds[4:6], deeds, slices.Repeat(deeds[2:4], 10)} {
			before := slices.Clone(list)
			checkNewDesks(t, x, func(d impl.Desk) impl.Desk {
				next, _ := impl.DeskRun(d, list)
				return next
			})
			if !slices.Equal(list, before) {
				t.Fatalf("%v was written to: %v", before, list)
			}
		}
	}
	good := roomOf([]impl.Deed{{Words: "a&b", A: 1}, {Kind: impl.DkPrice, B: 1}, {Kind: impl.DkBack}}, impl.Deed{Kind: 7})
	text := impl.JournalText(good)
	checkNewItems(t, good[:cap(good)], len(good), impl.Deed{Kind: 9}, func(row []impl.Deed) []impl.Deed {
		list, _ := impl.ReadJournal(impl.JournalText(row))
		return list
	})
	if again := impl.JournalText(good); again != text {
		t.Errorf("the journal was %q, and is %q", text, again)
	}
}

// TestNoDesksAreOnlyRead: what is no desk is not written to.
func TestNoDesksAreOnlyRead(t *testing.T) {
	for _, d := range badDesks() {
		before := wholeDesk(d)
		for _, a := range []impl.Deed{{Words: "a"}, {Kind: impl.DkPrice, B: 1}, {Kind: impl.DkTake, B: 1}, {Kind: impl.DkDrop}, {Kind: impl.DkBack}} {
			impl.DeskDo(d, a)
			impl.DeskRun(d, []impl.Deed{a, a})
		}
		impl.DeskOk(d)
		impl.DeskLine(d, "back")
		impl.DeskSay(d, []string{"back", "drop 0", "place"})
		if !reflect.DeepEqual(wholeDesk(d), before) {
			t.Fatalf("%v was written to: %v", before, wholeDesk(d))
		}
	}
}
