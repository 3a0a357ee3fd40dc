package tests

import (
	"fmt"
	"reflect"
	"regexp"
	"slices"
	"strings"
	"testing"

	"loop.example/fairbooks/impl"
)

// commaText returns numbers in decimal with commas between them.
func commaText(numbers []int) string {
	return strings.Trim(strings.ReplaceAll(fmt.Sprint(numbers), " ", ","), "[]")
}

// aboutOne fits questions about one event, and aboutTwo those about two, also with something else for their terms.
var (
	aboutOne = regexp.MustCompile("^(least|most|pinned) ([^ ]+)$")
	aboutTwo = regexp.MustCompile("^given ([^ ]+) ([^ ]+)$")
)

// said tells by the words of the document what DeskLine has to return for a desk and a line.
func (x stand) said(line string) (stand, string) {
	if a, ok := deedByPattern(line); ok {
		next, done := x.after(a)
		return next, map[bool]string{true: "ok", false: "not"}[done]
	}
	facts, sum := x.now.facts(), balance(4, x.now.quotes[:x.now.count], x.now.stakes[:x.now.count])
	switch line {
	case "place":
		return x, x.now.text()
	case "first":
		return x, commaText(facts.first)
	case "balance":
		return x, commaText(sum)
	case "count":
		return x, fmt.Sprint(facts.count)
	case "worst":
		return x, fmt.Sprint(slices.Min(sum))
	case "best":
		return x, fmt.Sprint(slices.Max(sum))
	}
	if parts := aboutOne.FindStringSubmatch(line); parts != nil && eventOfText(parts[2]) >= 0 {
		event := eventOfText(parts[2])
		least, most := facts.least(event), facts.most(event)
		return x, map[string]string{"least": fmt.Sprint(least), "most": fmt.Sprint(most), "pinned": map[bool]string{true: "yes", false: "no"}[least == most]}[parts[1]]
	}
	if parts := aboutTwo.FindStringSubmatch(line); parts != nil && eventOfText(parts[1]) >= 0 && eventOfText(parts[2]) >= 0 {
		over, under, ok := givenEvent(facts.first, eventOfText(parts[1]), eventOfText(parts[2]))
		if !ok {
			return x, "none"
		}
		return x, fmt.Sprintf("%d/%d", over, under)
	}
	return x, "what"
}

// plainQuestions has the questions that are asked without terms.
var plainQuestions = []string{"place", "first", "balance", "count", "worst", "best"}

// termQuestions has the words of those that are asked of one event.
var termQuestions = []string{"least", "most", "pinned"}

// askedLines returns all questions, about all events and in some other spellings.
func askedLines() []string {
	list := slices.Clone(plainQuestions)
	for i, words := range termWords {
		for k, word := range termQuestions {
			if i < 16 || i%3 == k {
				list = append(list, word+" "+words)
			}
		}
		for _, second := range eventTexts {
			if i < 16 && (i*7+len(second))%3 == 0 {
				list = append(list, "given "+words+" "+second)
			}
		}
		list = append(list, "given a "+words, "given "+words+" b")
	}
	return list
}

// noLines returns lines that are neither questions nor deeds: with spaces too many and too few, with terms too many and too few, with texts that are none, in other letters, and with other bytes.
func noLines() []string {
	list := []string{"", " ", "\n", "x", "what", "ok", "not", "yes", "no", "none", "0", "a", "a&b", "help", "Place", "PLACE", "places", "plac", "least a\nmost a", "place\nplace", "place;first", "place,first", "place first", strings.Repeat("a", 100000), strings.Repeat(" ", 100000), strings.Repeat("place ", 10000), "given" + strings.Repeat(" a", 100000), "least" + strings.Repeat(" ", 100000) + "a"}
	for _, word := range plainQuestions {
		list = append(list, word+" ", " "+word, word+"\n", word+"\x00", word+" a", word+" 0", word+"s", strings.ToUpper(word), word+" "+word, "\xff"+word)
	}
	for _, word := range termQuestions {
		list = append(list, word, word+" ", word+"  ", word+"  a", word+" a ", " "+word+" a", word+" a b", word+" a a&b", word+"a", word+"\ta", word+" a\n", word+"\na", word+" 10", word+" a 0", word+" a,b", strings.ToUpper(word)+" a", word+"s a")
		for _, words := range noWords {
			list = append(list, word+" "+words)
		}
	}
	list = append(list, "given", "given ", "given a", "given a ", "given  a", "given  a b", "given a  b", "given a b ", " given a b", "given a b a", "given a b 0", "givena b", "given ab", "given a\tb", "given\ta b", "given a b\n", "given a\nb", "given 1 2", "given a|b", "given a,b", "Given a b", "given given a b", "given a given b")
	for _, words := range noWords {
		list = append(list, "given a "+words, "given "+words+" a", "given "+words+" "+words)
	}
	for _, a := range triedDeeds() {
		if textByWords(a) == "" {
			list = append(list, fmt.Sprintf("%s %s %d %d", []string{"quote", "price", "take", "drop", "back"}[max(0, min(a.Kind, 4))], a.Words, a.A, a.B))
		}
	}
	for _, text := range []string{"quote a", "quote (a) 1", "quote a 100", "quote a -1", "price 0", "price 0 100", "price 0 -1", "take 0", "take 0 100", "take 0 -100", "take 0 -0", "drop", "drop 100", "drop -1", "drop 0 0", "back 0", "back ", " back"} {
		list = append(list, text)
	}
	return list
}

// checkLine tests what DeskLine returns for a desk and a line, and what promise 111 says of it.
func checkLine(t *testing.T, x stand, line string) (stand, string) {
	t.Helper()
	want, wantAnswer := x.said(line)
	d, answer := impl.DeskLine(x.desk(), line)
	if answer != wantAnswer || !sameDesks(d, want.desk()) {
		t.Fatalf("DeskLine(%v, %q) = %v, %q, not %v, %q", x.desk(), line, d, answer, want.desk(), wantAnswer)
	}
	if !impl.DeskOk(d) || answer != "ok" && !sameDesks(d, x.desk()) {
		t.Fatalf("%q changes the desk %v to %v, and is answered by %q", line, x.desk(), d, answer)
	}
	return want, answer
}

func TestPromise111QuestionsChangeNothing(t *testing.T) {
	asked := askedLines()
	answers := make(map[string]int)
	for i, x := range someStands() {
		for k, line := range asked {
			if k < 6 || (k+i)%8 == 0 {
				_, answer := checkLine(t, x, line)
				answers[answer]++
			}
		}
		for _, a := range triedDeeds() {
			if text := textByWords(a); text != "" && (a.A+a.B+i)%6 == 0 {
				_, answer := checkLine(t, x, text)
				answers[answer]++
			}
		}
		checkLine(t, x, "")
	}
	for _, answer := range []string{"ok", "not", "yes", "no", "none", "0", "36", "0/1", "1/1", "1/2", ".", "0,0,0,36", "0,0,0,0"} {
		if answers[answer] == 0 {
			t.Errorf("no line is answered by %q", answer)
		}
	}
	if answers["what"] > 0 {
		t.Errorf("%d questions are answered by what", answers["what"])
	}
}

func TestLinesThatAreNone(t *testing.T) {
	lines := noLines()
	for _, x := range []stand{{}, {now: exampleLot}, {now: exampleLot, past: []lot{{}, exampleLot}}} {
		for _, line := range lines {
			if _, answer := checkLine(t, x, line); answer != "what" {
				t.Fatalf("%q is answered by %q", line, answer)
			}
		}
		draw := drawer(112)
		for _, line := range askedLines() {
			checkLine(t, x, changed(draw, line))
		}
		for sign := range 256 {
			one := string([]byte{byte(sign)})
			for _, line := range []string{one, one + "place", "place" + one, "least" + one + "a", "least " + one, "given a" + one + "b", "given a " + one, "first" + one, "pinned a" + one} {
				checkLine(t, x, line)
			}
		}
	}
}

func TestSomeLines(t *testing.T) {
	fair := lotOf([]impl.Quote{{Event: 10, Price: 2}, {Event: 12, Price: 3}, {Event: 8, Price: 1}}, []int{9, -9, 1})
	sure := lotOf([]impl.Quote{{Event: 10, Price: 6}, {Event: 12, Price: 6}}, []int{-9, -9})
	for _, c := range []struct {
		now    lot
		line   string
		answer string
	}{
		{lot{}, "place", "."}, // no quotes
		{lot{}, "first", "0,0,0,36"},
		{lot{}, "balance", "0,0,0,0"},
		{lot{}, "worst", "0"},
		{lot{}, "best", "0"},
		{lot{}, "count", "9139"},
		{lot{}, "least a", "0"},
		{lot{}, "most a", "36"},
		{lot{}, "pinned a", "no"},
		{lot{}, "pinned a|!a", "yes"}, // always
		{lot{}, "least a|!a", "36"},
		{lot{}, "pinned b&!b", "yes"}, // never
		{lot{}, "most b&!b", "0"},
		{lot{}, "given a b", "1/1"},
		{lot{}, "given !a b", "0/1"},
		{lot{}, "given a !b", "none"},
		{lot{}, "given a a&!a", "none"},
		{lot{}, "given a|!a b|!b", "1/1"},
		{fair, "place", "10:2:9,12:3:-9,8:1:1"},
		{fair, "first", "12,6,12,6"},
		{fair, "count", "1"},
		{fair, "balance", "8,62,-46,14"},
		{fair, "worst", "-46"},
		{fair, "best", "62"},
		{fair, "least a|b", "24"},
		{fair, "most !(a|b)", "12"},
		{fair, "pinned a&!b", "yes"},
		{fair, "given a&b a|b", "1/4"},
		{fair, "given a b", "1/3"},
		{fair, "given !!a !!b", "1/3"}, // terms of one event in other words
		{fair, "given b a", "1/2"},
		{sure, "first", "0,0,0,36"},
		{sure, "balance", "108,54,54,0"},
		{sure, "worst", "0"},
		{sure, "given b !a", "none"},
		{exampleLot, "least a&b", "0"},
		{exampleLot, "most a&b", "12"},
		{exampleLot, "pinned !a", "yes"},
		{exampleLot, "pinned a&b", "no"},
		{exampleLot, "quote a&b 3", "not"},
		{exampleLot, "quote a&b 1", "ok"},
		{exampleLot, "quote a&b 99", "not"},
		{exampleLot, "quote a&b 100", "what"},
		{exampleLot, "price 0 2", "not"},
		{exampleLot, "price 2 2", "not"},
		{exampleLot, "take 1 -8", "ok"},
		{exampleLot, "take 1 -9", "not"},
		{exampleLot, "take 0 0", "not"},
		{exampleLot, "take 0 -0", "what"},
		{exampleLot, "drop 2", "not"},
		{exampleLot, "drop 1", "ok"},
		{exampleLot, "back", "not"},
		{exampleLot, "", "what"},
		{exampleLot, "place ", "what"},
		{exampleLot, "least", "what"},
		{exampleLot, "given a", "what"},
	} {
		if _, answer := impl.DeskLine(stand{now: c.now}.desk(), c.line); answer != c.answer {
			t.Errorf("at %v %q is answered by %q, not %q", c.now.place(), c.line, answer, c.answer)
		}
		checkLine(t, stand{now: c.now}, c.line)
	}
}

// TestTheExample: the lines of the document have their answers.
func TestTheExample(t *testing.T) {
	p, _ := impl.ReadPlace("10:2:1,12:3:-1")
	d, _ := impl.DeskNew(p)
	var lines, want []string
	for _, c := range [][2]string{
		{"first", "6,12,18,0"},
		{"balance", "1,7,-5,1"},
		{"worst", "-5"},
		{"most a&b", "12"},
		{"most a|b", "30"},
		{"pinned !a", "yes"},
		{"quote a&b 3", "not"},
		{"quote a&b 1", "ok"},
		{"first", "12,6,12,6"},
		{"given b a", "1/2"},
		{"price 2 2", "ok"},
		{"take 2 4", "ok"},
		{"balance", "-7,-1,-13,17"},
		{"drop 0", "ok"},
		{"place", "12:3:-1,8:2:4"},
	} {
		lines, want = append(lines, c[0]), append(want, c[1])
	}
	if _, answers := impl.DeskSay(d, lines); !slices.Equal(answers, want) {
		t.Errorf("the answers are %q", answers)
	}
}

func TestLinesAtNoDesk(t *testing.T) {
	for _, bad := range badDesks() {
		for _, line := range []string{"", "place", "count", "quote a 2", "take 0 1", "back", "x"} {
			if d, answer := impl.DeskLine(bad, line); answer != "" || !sameDesks(d, impl.Desk{}) {
				t.Fatalf("DeskLine(%v, %q) = %v, %q", bad, line, d, answer)
			}
		}
		for _, lines := range [][]string{nil, {"back"}, {"place", "place"}} {
			if d, answers := impl.DeskSay(bad, lines); len(answers) > 0 || !sameDesks(d, impl.Desk{}) {
				t.Fatalf("DeskSay(%v, %q) = %v, %q", bad, lines, d, answers)
			}
		}
	}
}

// checkSaid tests what DeskSay returns for a desk and at most MaxLines lines.
func checkSaid(t *testing.T, x stand, lines []string) (stand, []string) {
	t.Helper()
	want, wantAnswers := x, []string(nil)
	for _, line := range lines {
		next, answer := want.said(line)
		want, wantAnswers = next, append(wantAnswers, answer)
	}
	d, answers := impl.DeskSay(x.desk(), lines)
	if !slices.Equal(answers, wantAnswers) || !sameDesks(d, want.desk()) {
		t.Fatalf("DeskSay(%v, %q) = %v, %q, not %v, %q", x.desk(), lines, d, answers, want.desk(), wantAnswers)
	}
	if !impl.DeskOk(d) || slices.Contains(answers, "") {
		t.Fatalf("%q lead to the desk %v, and are answered by %q", lines, d, answers)
	}
	return want, answers
}

// drawLines draws so many lines: deeds, questions, and what is neither.
func drawLines(draw func(below int) int, count int) []string {
	asked, none, list := askedLines(), noLines(), make([]string, count)
	for i := range list {
		switch draw(6) {
		case 0:
			list[i] = asked[draw(len(asked))]
		case 1:
			list[i] = none[draw(len(none))]
		default:
			list[i] = textByWords(drawDeed(draw))
		}
	}
	return list
}

func TestPromise92WhateverIsSaidThePlaceIsTold(t *testing.T) {
	draw := drawer(92)
	for i, x := range someStands() {
		if i%2 == 1 {
			continue
		}
		lines := drawLines(draw, []int{0, 1, 7, 20, 40}[i/2%5])
		whole, answers := checkSaid(t, x, lines)
		for _, at := range []int{0, len(lines) / 3, len(lines)} {
			middle, first := checkSaid(t, x, lines[:at])
			last, second := checkSaid(t, middle, lines[at:])
			if !slices.Equal(slices.Concat(first, second), answers) {
				t.Fatalf("in two parts %q are answered by %q and %q, not %q", lines, first, second, answers)
			}
			checkDesk(t, last.desk(), whole)
		}
		lines = append(lines[:min(len(lines), 39)], "place")
		d, answers := impl.DeskSay(x.desk(), lines)
		p, ok := impl.ReadPlace(answers[len(answers)-1])
		if !ok || !samePlaces(p, d.Now) {
			t.Fatalf("behind %q the place of %v is told as %v, %t", lines, d, p, ok)
		}
	}
}

func TestAtMostMaxLinesLines(t *testing.T) {
	for _, line := range []string{"place", "", "take 0 1", "back"} {
		for _, size := range []int{0, 1, 39, 40, 41, 42, 80, 1000} {
			lines := slices.Repeat([]string{line}, size)
			if size <= 40 {
				checkSaid(t, stand{now: exampleLot}, lines)
			} else if d, answers := impl.DeskSay(stand{now: exampleLot}.desk(), lines); len(answers) > 0 || !sameDesks(d, impl.Desk{}) {
				t.Errorf("of %d lines %d are answered, at %v", size, len(answers), d)
			}
		}
	}
}

func TestAnswersAreNewMemory(t *testing.T) {
	lines := []string{"place", "quote a&b 1", "", "take 0 1", "take 0 -1", "back", "drop 0", "x", "least a", "price 0 9"}
	for _, x := range someStands() {
		for _, line := range lines {
			checkNewDesks(t, x, func(d impl.Desk) impl.Desk {
				next, _ := impl.DeskLine(d, line)
				return next
			})
		}
		for _, list := range [][]string{nil, lines[:1], lines[1:5], lines} {
			said := slices.Clone(list)
			checkNewDesks(t, x, func(d impl.Desk) impl.Desk {
				next, _ := impl.DeskSay(d, said)
				return next
			})
			if !slices.Equal(said, list) {
				t.Fatalf("%q was written to: %q", list, said)
			}
		}
		d := x.roomyDesk()
		before := wholeDesk(d)
		checkNewItems(t, append(slices.Clone(lines), "y", "z"), len(lines), "other", func(list []string) []string {
			_, answers := impl.DeskSay(d, list)
			return answers
		})
		if !reflect.DeepEqual(wholeDesk(d), before) {
			t.Fatalf("%v was written to: %v", before, wholeDesk(d))
		}
	}
}
