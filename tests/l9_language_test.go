package tests

import (
	"math"
	"slices"
	"strconv"
	"strings"
	"testing"

	"loop.example/fairbooks/impl"
)

// signMarks has the mark of each sign.
var signMarks = map[byte]impl.Mark{'a': {Kind: 0, At: 0}, 'b': {Kind: 0, At: 1}, '!': {Kind: 1}, '&': {Kind: 2}, '|': {Kind: 3}}

// signParts has, for each sign, how many parts its mark takes.
var signParts = map[byte]int{'a': 0, 'b': 0, '!': 1, '&': 2, '|': 2}

// marksOf returns a row of marks by their signs, in the order of the row: each sign behind its parts.
func marksOf(signs string) []impl.Mark {
	row := make([]impl.Mark, len(signs))
	for i := range row {
		row[i] = signMarks[signs[i]]
	}
	return row
}

// textsOf returns all texts of so many signs.
func textsOf(size int, signs string) []string {
	texts := []string{""}
	for range size {
		var longer []string
		for _, text := range texts {
			for i := range len(signs) {
				longer = append(longer, text+signs[i:i+1])
			}
		}
		texts = longer
	}
	return texts
}

// isTerm tells from the last mark of a row on what TermOk has to report: one part is wanted, each mark is one, and wants its own parts. Just at the first mark nothing more may be wanted.
func isTerm(row []impl.Mark) bool {
	wanted := 1
	for i := len(row) - 1; i >= 0; i-- {
		if wanted == 0 {
			return false
		}
		known := false
		for sign, mark := range signMarks {
			if mark == row[i] {
				known = true
				wanted += signParts[sign] - 1
			}
		}
		if !known {
			return false
		}
	}
	return wanted == 0 && len(row) <= 40
}

// tree is a term as these tests make it: the sign of its last mark, and the parts that this mark takes.
type tree struct {
	sign  byte
	parts []tree
}

// signs returns the signs of all marks of a term, in their order.
func (x tree) signs() string {
	all := ""
	for _, part := range x.parts {
		all += part.signs()
	}
	return all + string(x.sign)
}

// marks returns the term as a row.
func (x tree) marks() []impl.Mark {
	return marksOf(x.signs())
}

// heldSigns has, for each place of a sign, the last signs of all parts that are in brackets there.
var heldSigns = map[byte][]string{'!': {"&|"}, '&': {"|", "&|"}, '|': {"", "|"}}

// text tells by the table of brackets what TermText has to return.
func (x tree) text() string {
	var texts []string
	for i, part := range x.parts {
		text := part.text()
		if strings.IndexByte(heldSigns[x.sign][i], part.sign) >= 0 {
			text = "(" + text + ")"
		}
		texts = append(texts, text)
	}
	switch len(texts) {
	case 0:
		return string(x.sign)
	case 1:
		return string(x.sign) + texts[0]
	}
	return texts[0] + string(x.sign) + texts[1]
}

// truth tells by its words whether a term comes true in a world.
func (x tree) truth(world int) bool {
	switch x.sign {
	case 'a':
		return world == 1 || world == 3
	case 'b':
		return world == 2 || world == 3
	case '!':
		return !x.parts[0].truth(world)
	case '&':
		return x.parts[0].truth(world) && x.parts[1].truth(world)
	}
	return x.parts[0].truth(world) || x.parts[1].truth(world)
}

// event tells world by world what EventOfTerm has to return.
func (x tree) event() int {
	event := 0
	for world, amount := range []int{1, 2, 4, 8} {
		if x.truth(world) {
			event += amount
		}
	}
	return event
}

// smallTrees has all terms of 1..7 marks, by how many they have.
var smallTrees = func() [8][]tree {
	var all [8][]tree
	all[1] = []tree{{sign: 'a'}, {sign: 'b'}}
	for size := 2; size < 8; size++ {
		for _, part := range all[size-1] {
			all[size] = append(all[size], tree{'!', []tree{part}})
		}
		for first := 1; first < size-1; first++ {
			for _, one := range all[first] {
				for _, other := range all[size-1-first] {
					all[size] = append(all[size], tree{'&', []tree{one, other}}, tree{'|', []tree{one, other}})
				}
			}
		}
	}
	return all
}()

// drawTree draws a term of so many marks.
func drawTree(draw func(below int) int, size int) tree {
	switch {
	case size == 1:
		return tree{sign: "ab"[draw(2)]}
	case size == 2 || draw(4) == 0:
		return tree{'!', []tree{drawTree(draw, size-1)}}
	}
	first := 1 + draw(size-2)
	return tree{"&|"[draw(2)], []tree{drawTree(draw, first), drawTree(draw, size-1-first)}}
}

// chain returns letters put together by a sign, one after the other: all before to the left of it, or all behind to the right of it.
func chain(sign byte, letters string, left bool) tree {
	last := len(letters) - 1
	switch {
	case last == 0:
		return tree{sign: letters[0]}
	case left:
		return tree{sign, []tree{chain(sign, letters[:last], left), {sign: letters[last]}}}
	}
	return tree{sign, []tree{{sign: letters[0]}, chain(sign, letters[1:], left)}}
}

// nots puts so many times not ahead of a term.
func nots(times int, x tree) tree {
	for range times {
		x = tree{'!', []tree{x}}
	}
	return x
}

// longTrees returns terms of up to 40 marks: chains to both sides, alone and with nots ahead, and drawn ones of each size.
func longTrees() []tree {
	var list []tree
	letters := strings.Repeat("abba", 5)
	for length := 2; length <= 20; length++ {
		for _, sign := range []byte("&|") {
			for _, left := range []bool{true, false} {
				x := chain(sign, letters[:length], left)
				list = append(list, x, nots(1, x), nots(41-2*length, x))
			}
		}
	}
	draw := drawer(9)
	for size := 8; size <= 40; size++ {
		list = append(list, nots(size-1, tree{sign: "ab"[size%2]}))
		for range 60 {
			list = append(list, drawTree(draw, size))
		}
	}
	return list
}

// eachTree calls a function with all terms of few marks, and with some of many.
func eachTree(do func(x tree)) {
	for _, list := range smallTrees {
		for _, x := range list {
			do(x)
		}
	}
	for _, x := range longTrees() {
		do(x)
	}
}

// badMarks has marks that are none: kinds before the first and past the last one, letters past the last one, and other marks with a letter.
var badMarks = func() []impl.Mark {
	var list []impl.Mark
	for _, kind := range []int{math.MinInt, math.MinInt + 1, -3, -2, -1, 4, 5, 6, 97, 98, 1 << 32, 1<<32 + 1, math.MaxInt - 1, math.MaxInt} {
		for _, at := range []int{math.MinInt, -1, 0, 1, 2, math.MaxInt} {
			list = append(list, impl.Mark{Kind: kind, At: at})
		}
	}
	for _, at := range []int{math.MinInt, math.MinInt + 1, -2, -1, 1, 2, 3, 97, 98, 256, 1 << 32, 1<<32 + 1, math.MaxInt - 1, math.MaxInt} {
		if at != 1 {
			list = append(list, impl.Mark{Kind: 0, At: at})
		}
		list = append(list, impl.Mark{Kind: 1, At: at}, impl.Mark{Kind: 2, At: at}, impl.Mark{Kind: 3, At: at})
	}
	return list
}()

// checkNoTerm tests what the functions of the chapter return for a row that is no term.
func checkNoTerm(t *testing.T, row []impl.Mark) {
	t.Helper()
	if impl.TermOk(row) {
		t.Fatalf("TermOk(%v)", row)
	}
	if event := impl.EventOfTerm(row); event != -1 {
		t.Fatalf("EventOfTerm(%v) = %d", row, event)
	}
	if text := impl.TermText(row); text != "" {
		t.Fatalf("TermText(%v) = %q", row, text)
	}
	w := impl.Wager{Stake: 1, By: row, Price: 1}
	if text := impl.WagerText(w); impl.WagerOk(w) || text != "" {
		t.Fatalf("WagerText(%v) = %q", w, text)
	}
	if gain := impl.WagerGain(w); len(gain) != 0 {
		t.Fatalf("WagerGain(%v) = %v", w, gain)
	}
}

// eachNoTerm calls a function with rows that are no terms: too short and too long ones, such as leave two parts or none or take one too many, and terms with a mark that is none in some place or ahead of it.
func eachNoTerm(do func(row []impl.Mark)) {
	do(nil)
	do([]impl.Mark{})
	for _, signs := range []string{
		"!", "&", "|", "!a", "&a", "ab", "aa", "a&", "a|", "a&b", "&ab", "aba", "ab&&", "ab|!|", "a!!b", "aa&b", "ab&ab", "ab!&|", "!!", "&&", "ab&!ab", "abab|&",
		"a" + strings.Repeat("!", 40), // 41 marks that would be terms
		"ab&" + strings.Repeat("!", 38),
		"a" + strings.Repeat("b|", 20),
		strings.Repeat("a", 21) + strings.Repeat("&", 20),
		"a" + strings.Repeat("!", 79),
		"a" + strings.Repeat("b&", 1000),
		strings.Repeat("a", 40), // 40 marks, but no term
		strings.Repeat("a", 39) + "&",
		strings.Repeat("a", 20) + strings.Repeat("|", 20),
		strings.Repeat("!", 40),
	} {
		do(marksOf(signs))
	}
	for _, signs := range []string{"a", "b", "a!", "ab&", "ba|!", "ab!&a|", strings.Repeat("ab&", 8) + strings.Repeat("|", 7)} {
		term := marksOf(signs)
		for i := range term {
			for _, bad := range badMarks {
				row := slices.Clone(term)
				row[i] = bad
				do(row)
				do(slices.Insert(slices.Clone(term), i, bad))
			}
		}
	}
}

func TestNumbersOfMarks(t *testing.T) {
	if impl.MarkLetter != 0 || impl.MarkNot != 1 || impl.MarkAnd != 2 || impl.MarkOr != 3 || impl.MaxMarks != 40 {
		t.Errorf("marks: %d, %d, %d, %d, of which at most %d", impl.MarkLetter, impl.MarkNot, impl.MarkAnd, impl.MarkOr, impl.MaxMarks)
	}
}

// TestRowsOfMarksAreTerms: of all rows of few marks just those are terms that are told by the tests, and as many as there are.
func TestRowsOfMarksAreTerms(t *testing.T) {
	for size := range 7 {
		terms := 0
		for _, signs := range textsOf(size, "ab!&|") {
			row := marksOf(signs)
			ok := impl.TermOk(row)
			if ok != isTerm(row) {
				t.Fatalf("TermOk(%q) = %t", signs, ok)
			}
			if ok {
				terms++
			} else {
				checkNoTerm(t, row)
			}
		}
		if terms != len(smallTrees[size]) {
			t.Fatalf("%d rows of %d marks are terms, not %d", terms, size, len(smallTrees[size]))
		}
	}
}

func TestOtherRowsAreNoTerms(t *testing.T) {
	eachNoTerm(func(row []impl.Mark) {
		if isTerm(row) {
			t.Fatalf("%v is a term", row)
		}
		checkNoTerm(t, row)
	})
}

func TestPromise51OneLetterIsATerm(t *testing.T) {
	if !impl.TermOk(marksOf("a")) || !impl.TermOk(marksOf("b")) {
		t.Fatal("a letter is no term")
	}
	sizes := make(map[int]int)
	eachTree(func(x tree) {
		signs := x.signs()
		if !impl.TermOk(marksOf(signs)) {
			t.Fatalf("TermOk(%q) = false", signs)
		}
		sizes[len(signs)]++
		for _, behind := range []string{"!", "a&", "a|", "b&", "b|"} {
			if ok := impl.TermOk(marksOf(signs + behind)); ok != (len(signs)+len(behind) <= 40) {
				t.Fatalf("TermOk(%q) = %t", signs+behind, ok)
			}
		}
	})
	for size := 1; size <= 40; size++ {
		if sizes[size] < 2 {
			t.Errorf("%d terms have %d marks", sizes[size], size)
		}
	}
}

func TestEventsOfSomeTerms(t *testing.T) {
	for _, c := range []struct {
		signs string
		want  int
	}{
		{"a", 10},
		{"b", 12},
		{"a!", 5},
		{"b!", 3},
		{"a!!", 10}, // a not of a not
		{"b!!!", 3},
		{"ab&", 8},
		{"ab|", 14},
		{"aa&", 10}, // both parts the same
		{"bb|", 12},
		{"ab!&", 2},
		{"a!b&", 4},
		{"a!b!&", 1},
		{"ab|!", 1},
		{"ab&!", 7},
		{"a!b|", 13},
		{"ab!|", 11},
		{"aa!&", 0}, // never
		{"a!a&", 0},
		{"bb!&", 0},
		{"aa!|", 15}, // always
		{"bb!|!", 0},
		{"ab|!a&", 0},
		{"aa!&!", 15},
		{"ab!&a!b&|", 6},
		{"ab&a!b!&|", 9},
		{"ab!&a!b&|!", 9},
		{"aa!&b&", 0},
		{"aa!&b|", 12},
	} {
		if got := impl.EventOfTerm(marksOf(c.signs)); got != c.want {
			t.Errorf("EventOfTerm(%q) = %d, not %d", c.signs, got, c.want)
		}
	}
}

func TestPromise52TermsAreEventsByTheirWords(t *testing.T) {
	never, always := 0, 0
	events := make(map[int]int)
	eachTree(func(x tree) {
		signs := x.signs()
		event := impl.EventOfTerm(marksOf(signs))
		if event != x.event() || !impl.EventOk(4, event) {
			t.Fatalf("EventOfTerm(%q) = %d, not %d", signs, event, x.event())
		}
		events[event]++
		if event == 0 {
			never++
		}
		if event == 15 {
			always++
		}
		if len(signs) <= 39 {
			if other := impl.EventOfTerm(marksOf(signs + "!")); other != impl.NotEvent(4, event) || other != 15-event {
				t.Fatalf("EventOfTerm(%q) = %d, but with a not behind it %d", signs, event, other)
			}
		}
		if len(signs) > 38 {
			return
		}
		both, either := 0, 0
		for world, in := range setOf(4, event) {
			if in && world >= 2 {
				both += []int{1, 2, 4, 8}[world]
			}
			if in || world >= 2 {
				either += []int{1, 2, 4, 8}[world]
			}
		}
		if got := impl.EventOfTerm(marksOf(signs + "b&")); got != both {
			t.Fatalf("EventOfTerm(%q) = %d, but with b and both behind it %d", signs, event, got)
		}
		if got := impl.EventOfTerm(marksOf(signs + "b|")); got != either {
			t.Fatalf("EventOfTerm(%q) = %d, but with b and one at least behind it %d", signs, event, got)
		}
	})
	if never < 50 || always < 50 || len(events) != 16 {
		t.Errorf("%d terms never come true, %d always do, and %d events are told", never, always, len(events))
	}
}

// textCases has terms by the signs of their marks, and their texts.
var textCases = []struct{ signs, text string }{
	{"a", "a"},
	{"b", "b"},
	{"a!", "!a"},
	{"b!!", "!!b"},
	{"a!!!", "!!!a"},
	{"ab&", "a&b"},
	{"ba|", "b|a"},
	{"aa&", "a&a"},
	{"bb|", "b|b"},
	{"a!b!&", "!a&!b"}, // not in each other way to bind
	{"a!b!|", "!a|!b"},
	{"ab&!", "!(a&b)"},
	{"ab|!", "!(a|b)"},
	{"ab&!!", "!!(a&b)"},
	{"ab|!!", "!!(a|b)"},
	{"ab&!a&", "!(a&b)&a"},
	{"ab|!a&", "!(a|b)&a"},
	{"aab|!&", "a&!(a|b)"},
	{"aab&!&", "a&!(a&b)"},
	{"aab&!|", "a|!(a&b)"},
	{"aab|!|", "a|!(a|b)"},
	{"ab&b&", "a&b&b"}, // both in both
	{"aab&&", "a&(a&b)"},
	{"ab&b&a&", "a&b&b&a"},
	{"aaab&&&", "a&(a&(a&b))"},
	{"ab&ab&&", "a&b&(a&b)"},
	{"ab|b&", "(a|b)&b"}, // one at least in both
	{"bab|&", "b&(a|b)"},
	{"ab|ba|&", "(a|b)&(b|a)"},
	{"ab&b|", "a&b|b"}, // both in one at least
	{"bab&|", "b|a&b"},
	{"ab&ba&|", "a&b|b&a"},
	{"ab|b|", "a|b|b"}, // one at least in one at least
	{"aab||", "a|(a|b)"},
	{"ab|b|a|", "a|b|b|a"},
	{"aaab|||", "a|(a|(a|b))"},
	{"ab|ab||", "a|b|(a|b)"},
	{"ab!a&|", "a|!b&a"}, // all in each other
	{"ab|a&b|", "(a|b)&a|b"},
	{"bab|a&|", "b|(a|b)&a"},
	{"ab&a|b&", "(a&b|a)&b"},
	{"bab&a|&", "b&(a&b|a)"},
	{"bab&a||", "b|(a&b|a)"},
	{"aba|&b&a|!", "!(a&(b|a)&b|a)"},
	{"aba&|!b!!a&&", "!(a|b&a)&(!!b&a)"},
	{"a!b!&a!b&|", "!a&!b|!a&b"},
}

func TestTextsOfSomeTerms(t *testing.T) {
	for _, c := range textCases {
		if got := impl.TermText(marksOf(c.signs)); got != c.text {
			t.Errorf("TermText(%q) = %q, not %q", c.signs, got, c.text)
		}
		checkTermRead(t, c.text, marksOf(c.signs))
	}
}

// checkTermRead tests what ReadTerm returns for a text: a term, or nothing for no marks.
func checkTermRead(t *testing.T, text string, want []impl.Mark) {
	t.Helper()
	if got, ok := impl.ReadTerm(text); ok != (len(want) > 0) || !slices.Equal(got, want) {
		t.Fatalf("ReadTerm(%q) = %v, %t, not %v", text, got, ok, want)
	}
}

func TestPromise53TextsOfTermsAreRead(t *testing.T) {
	held, longest := 0, 0
	eachTree(func(x tree) {
		text := impl.TermText(x.marks())
		if text != x.text() {
			t.Fatalf("TermText(%q) = %q, not %q", x.signs(), text, x.text())
		}
		checkTermRead(t, text, x.marks())
		if strings.Contains(text, "(") {
			held++
		}
		longest = max(longest, len(text))
	})
	// At most 19 marks put two parts together, and each of these may be in brackets if there is one not ahead.
	if held < 1000 || longest != 40+2*19 {
		t.Errorf("%d texts have brackets, and the longest one has %d bytes", held, longest)
	}
}

// lastOutside returns where a sign is last outside of all brackets; -1 if it is nowhere.
func lastOutside(text string, sign byte) int {
	at, depth := -1, 0
	for i := range len(text) {
		switch text[i] {
		case '(':
			depth++
		case ')':
			depth--
		case sign:
			if depth == 0 {
				at = i
			}
		}
	}
	return at
}

// split tells by splitting a text at its last sign outside of brackets of which term it is the text, and whether it is one, of however many marks.
func split(text string) (tree, bool) {
	for _, sign := range []byte("|&") {
		if at := lastOutside(text, sign); at >= 0 {
			first, ok := splitHeld(text[:at], heldSigns[sign][0])
			second, ok2 := splitHeld(text[at+1:], heldSigns[sign][1])
			return tree{sign, []tree{first, second}}, ok && ok2
		}
	}
	if text == "a" || text == "b" {
		return tree{sign: text[0]}, true
	}
	if strings.HasPrefix(text, "!") {
		part, ok := splitHeld(text[1:], heldSigns['!'][0])
		return tree{'!', []tree{part}}, ok
	}
	return tree{}, false
}

// splitHeld splits a text in a place where parts with some last signs are in brackets, and no others are.
func splitHeld(text string, held string) (tree, bool) {
	inner := strings.HasPrefix(text, "(") && strings.HasSuffix(text, ")")
	if inner {
		if part, ok := split(text[1 : len(text)-1]); ok {
			return part, strings.IndexByte(held, part.sign) >= 0
		}
	}
	part, ok := split(text)
	return part, ok && strings.IndexByte(held, part.sign) < 0
}

// termBySplit tells what ReadTerm has to return for a text; no marks if there is no such term.
func termBySplit(text string) []impl.Mark {
	x, ok := split(text)
	if !ok || len(text) > 120 || len(x.signs()) > 40 {
		return nil
	}
	return x.marks()
}

// otherSignsInTexts has bytes for tests: all signs of terms and wagers, and others, also past 127.
const otherSignsInTexts = "ab!&|()*@-+01279 cAB\n\t\x00\x7f\x80\xc3\xff^~v.,"

// changed returns a text with one byte more, less, or another one, in a drawn place.
func changed(draw func(below int) int, text string) string {
	at := draw(len(text) + 1)
	sign := otherSignsInTexts[draw(len(otherSignsInTexts))]
	switch draw(4) {
	case 0:
		return text[:at] + text[min(at+1, len(text)):]
	case 1:
		return text[:at] + string([]byte{sign}) + text[at:]
	case 2:
		end := at + draw(len(text)+1-at)
		return text[:at] + "(" + text[at:end] + ")" + text[end:]
	}
	return text[:at] + string([]byte{sign}) + text[min(at+1, len(text)):]
}

// checkCanonical tests what promise 54 says of a text.
func checkCanonical(t *testing.T, text string) bool {
	t.Helper()
	term, ok := impl.ReadTerm(text)
	if !ok {
		return false
	}
	if again := impl.TermText(term); again != text {
		t.Fatalf("%q is read as %v, whose text is %q", text, term, again)
	}
	checkTermRead(t, "("+text+")", nil)
	return true
}

// TestPromise54ReadTextsAreCanonical: of all short texts of the signs just those of terms are read.
func TestPromise54ReadTextsAreCanonical(t *testing.T) {
	terms := make(map[string][]impl.Mark)
	for _, list := range smallTrees {
		for _, x := range list {
			terms[x.text()] = x.marks()
		}
	}
	for size := range 7 {
		read := 0
		for _, text := range textsOf(size, "ab!&|()") {
			checkTermRead(t, text, terms[text])
			if checkCanonical(t, text) {
				read++
			}
		}
		if size > 0 && read < 2 {
			t.Errorf("%d texts of %d bytes are read", read, size)
		}
	}
}

func TestChangedTextsAreReadAsTheyAre(t *testing.T) {
	draw, read, refused := drawer(54), 0, 0
	eachTree(func(x tree) {
		for range 10 {
			text := changed(draw, x.text())
			checkTermRead(t, text, termBySplit(text))
			if checkCanonical(t, text) {
				read++
			} else {
				refused++
			}
		}
	})
	if read < 1000 || refused < 1000 {
		t.Errorf("%d changed texts are read, and %d refused", read, refused)
	}
}

func TestTextsThatAreNoTerms(t *testing.T) {
	for _, text := range []string{
		"",
		"(a)", "((a))", "(a", "a)", "(", ")", "()", "a()", "()a", // brackets that are not needed, or do not close
		"(a|b)", "(a&b)", "(!a)", "!(a)", "!(!a)", "!((a|b))", "!(a|b", "!a|b)", "!)a|b(",
		"(a|b)|a", "(a&b)|a", "a|(a&b)", "a|(!a)", "a|(b)", "(a)|b",
		"(a&b)&a", "(!a)&b", "a&(!b)", "a&(b)", "(a)&b", "a&((a|b))", "((a|b))&a", "a&(a|b))",
		"a&", "&a", "a|", "|a", "&", "|", "!", "a!", "!!", "a!b", "a&&b", "a||b", "a&|b", "a|&b", "!&a", "a&!", "(a|)&b", "a&(|b)", // nothing on one side
		"ab", "aa", "a(b)", "a(a|b)", "(a|b)a", "(a|b)(a|b)", "!a!b",
		" ", " a", "a ", "a b", "a &b", "a& b", "! a", "a|( a|b)", "a\n", "\ta", "a\r", // spaces
		"c", "A", "B", "ä", "a&c", "0", "1", "a0", "a^b", "~a", "a+b", "a*b", "a@b", "¬a", "a∧b", "a∨b", "ａ", "\x00", "a\x00", "\x80", "\xff", "a\xff", "a|\xe1", // no signs of the language
		"[a|b]&a", "{a|b}&a", "not a", "a and b", "a or b", "!(a|b)&", ".",
	} {
		if isText := termBySplit(text); isText != nil {
			t.Fatalf("%q is the text of %v", text, isText)
		}
		checkTermRead(t, text, nil)
	}
	for sign := range 256 {
		text := string([]byte{byte(sign)})
		if sign != 'a' && sign != 'b' {
			checkTermRead(t, text, nil)
			checkTermRead(t, "a&"+text, nil)
		}
		checkTermRead(t, "a"+text, nil)
		if sign != '!' {
			checkTermRead(t, text+"a", nil)
		}
		if sign != '&' && sign != '|' {
			checkTermRead(t, "a"+text+"b", nil)
		}
	}
}

// TestBoundsOfTexts: texts of terms of 40 marks are read, with and without brackets, and longer ones are not, whatever their length.
func TestBoundsOfTexts(t *testing.T) {
	right := func(sign string, letters int) string {
		return strings.Repeat("a"+sign+"(", letters-2) + "a" + sign + "b" + strings.Repeat(")", letters-2)
	}
	for _, c := range []struct {
		text  string
		signs string // "" if it is not read
	}{
		{strings.Repeat("!", 39) + "a", "a" + strings.Repeat("!", 39)},
		{strings.Repeat("!", 40) + "a", ""},
		{"a" + strings.Repeat("|b", 19), "a" + strings.Repeat("b|", 19)},
		{"a" + strings.Repeat("&b", 19), "a" + strings.Repeat("b&", 19)},
		{"!a" + strings.Repeat("&b", 19), "a!" + strings.Repeat("b&", 19)},
		{"!!a" + strings.Repeat("&b", 19), ""},
		{"a" + strings.Repeat("|b", 20), ""},
		{"a" + strings.Repeat("&b", 20), ""},
		{right("&", 20), strings.Repeat("a", 19) + "b" + strings.Repeat("&", 19)},
		{right("|", 20), strings.Repeat("a", 19) + "b" + strings.Repeat("|", 19)},
		{right("|", 21), ""},
		{"!(" + right("&", 20) + ")", strings.Repeat("a", 19) + "b" + strings.Repeat("&", 19) + "!"}, // 78 bytes, the most of all
		{"!!(" + right("&", 20) + ")", ""},
		{"!(" + right("&", 21) + ")", ""},
		{strings.Repeat("!", 119) + "a", ""}, // 120 bytes
		{strings.Repeat("!", 120) + "a", ""}, // and one more
		{strings.Repeat("!", 117) + "a|b", ""},
		{strings.Repeat("a|", 59) + "!a", ""},
		{strings.Repeat("a|", 60) + "a", ""},
		{strings.Repeat("a&", 60) + "a", ""},
		{strings.Repeat("(", 59) + "!a" + strings.Repeat(")", 59), ""},
		{strings.Repeat("(", 60) + "a" + strings.Repeat(")", 60), ""},
		{strings.Repeat("(", 120), ""},
		{strings.Repeat("(", 121), ""},
		{"a" + strings.Repeat(" ", 119), ""},
		{"a" + strings.Repeat(" ", 120), ""},
		{right("&", 20) + strings.Repeat("\x00", 120-len(right("&", 20))), ""},
		{strings.Repeat("!", 1000000) + "a", ""},
		{strings.Repeat("(", 1000000), ""},
		{strings.Repeat("(", 1000000) + "a" + strings.Repeat(")", 1000000), ""},
		{strings.Repeat("a|", 1000000) + "a", ""},
	} {
		checkTermRead(t, c.text, marksOf(c.signs))
		if text := impl.TermText(marksOf(c.signs)); c.signs != "" && text != c.text {
			t.Errorf("TermText(%q) = %q", c.signs, text)
		}
	}
}

// eventTexts has the texts of the terms of all events.
var eventTexts = []string{
	"a&!a", "!a&!b", "a&!b", "!a&!b|a&!b",
	"!a&b", "!a&!b|!a&b", "a&!b|!a&b", "!a&!b|a&!b|!a&b",
	"a&b", "!a&!b|a&b", "a&!b|a&b", "!a&!b|a&!b|a&b",
	"!a&b|a&b", "!a&!b|!a&b|a&b", "a&!b|!a&b|a&b", "!a&!b|a&!b|!a&b|a&b",
}

func TestPromise55EachEventHasATerm(t *testing.T) {
	for event, text := range eventTexts {
		term := impl.SumTerm(event)
		want, ok := split(text)
		if !ok || !slices.Equal(term, want.marks()) {
			t.Fatalf("SumTerm(%d) = %v, not %v", event, term, want.marks())
		}
		if !impl.TermOk(term) || impl.EventOfTerm(term) != event {
			t.Fatalf("SumTerm(%d) = %v, whose event is %d", event, term, impl.EventOfTerm(term))
		}
		if got := impl.TermText(term); got != text {
			t.Fatalf("TermText(SumTerm(%d)) = %q, not %q", event, got, text)
		}
		checkTermRead(t, text, term)
	}
	for _, event := range eventNumbers() {
		if term := impl.SumTerm(event); (len(term) > 0) != isEvent(4, event) {
			t.Errorf("SumTerm(%d) = %v", event, term)
		}
	}
}

// wagerTrees has terms of wagers: the letters, terms of each other event, of one mark up to 40, with and without brackets.
func wagerTrees() []tree {
	var list []tree
	for _, text := range eventTexts {
		x, _ := split(text)
		list = append(list, x)
	}
	for _, c := range textCases {
		x, _ := split(c.text)
		list = append(list, x)
	}
	draw := drawer(56)
	for size := 7; size <= 40; size += 3 {
		list = append(list, drawTree(draw, size))
	}
	return append(list, nots(38, tree{sign: 'a'}), nots(39, tree{sign: 'b'}), chain('&', strings.Repeat("ab", 10), false))
}

// eachWager calls a function with wagers on these terms at all stakes and prices.
func eachWager(do func(stake int, by tree, price int)) {
	for _, by := range wagerTrees() {
		for _, stake := range allStakes() {
			for _, price := range prices {
				do(stake, by, price)
			}
		}
	}
}

// wagerOf returns a wager on a term.
func wagerOf(stake int, by tree, price int) impl.Wager {
	return impl.Wager{Stake: stake, By: by.marks(), Price: price}
}

// sameWager tells whether two wagers are the same one.
func sameWager(a impl.Wager, b impl.Wager) bool {
	return a.Stake == b.Stake && a.Price == b.Price && slices.Equal(a.By, b.By)
}

// eachNoWager calls a function with wagers that are none: by the stake, by the term, by the price, or by more than one of these.
func eachNoWager(do func(w impl.Wager)) {
	do(impl.Wager{})
	for _, by := range []tree{{sign: 'a'}, chain('|', "ab", true), nots(39, tree{sign: 'b'})} {
		for _, stake := range badStakes {
			for _, price := range append(slices.Clone(prices), badPrices...) {
				do(wagerOf(stake, by, price))
			}
		}
		for _, price := range badPrices {
			for _, stake := range allStakes() {
				do(wagerOf(stake, by, price))
			}
		}
	}
	eachNoTerm(func(row []impl.Mark) {
		for _, stake := range []int{math.MinInt, -9, 0, 1, 10} {
			for _, price := range []int{-1, 0, 6, math.MaxInt} {
				do(impl.Wager{Stake: stake, By: row, Price: price})
			}
		}
	})
}

func TestPromise56TheOtherSideOfAWagerIsOne(t *testing.T) {
	check := func(w impl.Wager, want bool) {
		t.Helper()
		if impl.WagerOk(w) != want {
			t.Fatalf("WagerOk(%v) = %t", w, !want)
		}
		other := w
		other.Stake = -w.Stake
		if impl.WagerOk(other) != want {
			t.Fatalf("WagerOk(%v) = %t, but of %v %t", other, !want, w, want)
		}
		other.Stake = 0
		if want && !impl.WagerOk(other) {
			t.Fatalf("%v is a wager, but not at the stake 0", w)
		}
	}
	eachWager(func(stake int, by tree, price int) {
		check(wagerOf(stake, by, price), true)
	})
	eachNoWager(func(w impl.Wager) {
		check(w, false)
	})
}

func TestTextsOfSomeWagers(t *testing.T) {
	for _, c := range []struct {
		stake int
		signs string
		price int
		text  string
	}{
		{1, "a", 0, "1*a@0"},
		{0, "b", 6, "0*b@6"},
		{9, "ab|", 3, "9*a|b@3"},
		{-9, "ab&", 2, "-9*a&b@2"},
		{-1, "a!", 5, "-1*!a@5"},
		{-2, "ab|", 4, "-2*a|b@4"},
		{3, "ab|!a&", 1, "3*!(a|b)&a@1"},
		{5, "bab|&", 6, "5*b&(a|b)@6"},
		{0, "aa!&", 0, "0*a&!a@0"},
		{-5, "a" + strings.Repeat("!", 39), 0, "-5*" + strings.Repeat("!", 39) + "a@0"},
		{10, "a", 0, ""},
		{-10, "a", 0, ""},
		{1, "a", 7, ""},
		{1, "a", -1, ""},
		{1, "", 1, ""},
		{1, "ab", 1, ""},
		{1, "a" + strings.Repeat("!", 40), 1, ""},
	} {
		w := impl.Wager{Stake: c.stake, By: marksOf(c.signs), Price: c.price}
		if got := impl.WagerText(w); got != c.text {
			t.Errorf("WagerText(%v) = %q, not %q", w, got, c.text)
		}
		if c.text != "" {
			checkWagerRead(t, c.text, w)
		}
	}
	eachNoWager(func(w impl.Wager) {
		if text := impl.WagerText(w); text != "" {
			t.Fatalf("WagerText(%v) = %q", w, text)
		}
	})
}

// checkWagerRead tests what ReadWager returns for a text: a wager, or nothing for one without marks.
func checkWagerRead(t *testing.T, text string, want impl.Wager) {
	t.Helper()
	if got, ok := impl.ReadWager(text); ok != (len(want.By) > 0) || !sameWager(got, want) {
		t.Fatalf("ReadWager(%q) = %v, %t, not %v", text, got, ok, want)
	}
}

func TestPromise57TextsOfWagersAreRead(t *testing.T) {
	eachWager(func(stake int, by tree, price int) {
		w := wagerOf(stake, by, price)
		text := impl.WagerText(w)
		if text != strconv.Itoa(stake)+"*"+by.text()+"@"+strconv.Itoa(price) {
			t.Fatalf("WagerText(%v) = %q", w, text)
		}
		checkWagerRead(t, text, w)
	})
}

// wagerBySplit tells by splitting a text, and by looking for its numbers among all stakes and prices, what ReadWager has to return; the zero value if there is no such wager.
func wagerBySplit(text string) impl.Wager {
	for _, stake := range allStakes() {
		for _, price := range prices {
			ahead, behind := strconv.Itoa(stake)+"*", "@"+strconv.Itoa(price)
			if len(text) < len(ahead)+len(behind) || !strings.HasPrefix(text, ahead) || !strings.HasSuffix(text, behind) {
				continue
			}
			if by := termBySplit(text[len(ahead) : len(text)-len(behind)]); by != nil {
				return impl.Wager{Stake: stake, By: by, Price: price}
			}
		}
	}
	return impl.Wager{}
}

// checkCanonicalWager tests what promise 58 says of a text.
func checkCanonicalWager(t *testing.T, text string) bool {
	t.Helper()
	w, ok := impl.ReadWager(text)
	if !ok {
		return false
	}
	if again := impl.WagerText(w); again != text {
		t.Fatalf("%q is read as %v, whose text is %q", text, w, again)
	}
	checkWagerRead(t, text+"0", impl.Wager{})
	return true
}

func TestPromise58ReadWagersAreCanonical(t *testing.T) {
	draw, read, refused := drawer(58), 0, 0
	eachWager(func(stake int, by tree, price int) {
		text := strconv.Itoa(stake) + "*" + by.text() + "@" + strconv.Itoa(price)
		if !checkCanonicalWager(t, text) {
			t.Fatalf("ReadWager(%q) is told nothing", text)
		}
		text = changed(draw, text)
		checkWagerRead(t, text, wagerBySplit(text))
		if checkCanonicalWager(t, text) {
			read++
		} else {
			refused++
		}
	})
	if read < 500 || refused < 1000 {
		t.Errorf("%d changed texts are read, and %d refused", read, refused)
	}
	for size := range 7 {
		read := 0
		for _, text := range textsOf(size, "-0169*@a") {
			checkWagerRead(t, text, wagerBySplit(text))
			if checkCanonicalWager(t, text) {
				read++
			}
		}
		if (read > 0) != (size >= 5) {
			t.Errorf("%d texts of %d bytes are read", read, size)
		}
	}
}

func TestTextsThatAreNoWagers(t *testing.T) {
	digits := strings.Repeat("9", 1000)
	for _, text := range []string{
		"", "*", "@", "*@", "a", "1", "*a@1", "1*@1", "1*a@", "1*a", "a@1", "1a@1", "1*a1", "1@1", "1*1", "1@a*1", "a*1@1", "1*a@a", "b*a@1",
		"-0*a@1", "--1*a@1", "-*a@1", "- 1*a@1", "+1*a@1", "+0*a@1", "01*a@1", "00*a@1", "-01*a@1", "1-*a@1", "1-1*a@1", "0x1*a@1", "0b1*a@1", "1e0*a@1", "1.0*a@1", "1_*a@1", "0_1*a@1", "１*a@1", "\xb9*a@1",
		"2*a@+1", "2*a@-0", "2*a@-1", "2*a@00", "2*a@01", "2*a@06", "2*a@1.", "2*a@1e0", "2*a@0x1", "2*a@1_", "2*a@ 1", "2*a@1 ", "2*a@1\n",
		"10*a@1", "-10*a@1", "11*a@1", "99*a@1", "1*a@7", "1*a@8", "1*a@10", "1*a@66", "1*a@60",
		"9223372036854775807*a@1", "-9223372036854775808*a@1", "9223372036854775808*a@1", "18446744073709551617*a@1", "4294967297*a@1", "-18446744073709551615*a@1",
		"1*a@9223372036854775807", "1*a@18446744073709551617", "1*a@4294967297", "1*a@-9223372036854775808",
		digits + "*a@1", "-" + digits + "*a@1", "1*a@" + digits, strings.Repeat("0", 1000) + "1*a@1", "1*a@" + strings.Repeat("0", 1000) + "1", digits + "*a@" + digits,
		"1**a@1", "1*a@@1", "1*a@1@1", "1*1*a@1", "1*a*b@1", "1*a@1*", "1*a@1@", "*1*a@1", "@1*a@1", "1*a*@1", "1@*a@1", "1*a@1*a@1", "1*a@1,1*a@1",
		" 1*a@1", "1 *a@1", "1* a@1", "1*a @1", "1*a@1 ", "1*a@1\x00", "\x001*a@1", "1*a@1\xff", "\xff1*a@1",
		"1*(a)@1", "1*(a|b)@1", "1*a|(b&a)@1", "1*a&@1", "1*!@1", "1*c@1", "1*A@1", "(1*a@1)", "1*(a@1)", "(1)*a@1", "!1*a@1", "1*ab@1", "1*a|b)@1",
		"1*" + strings.Repeat("!", 40) + "a@1", "1*" + strings.Repeat("a|", 20) + "a@1", "1*" + strings.Repeat("!", 119) + "a@1", "1*" + strings.Repeat("(", 1000000) + "a@1",
		strings.Repeat("1*a@1", 100000), strings.Repeat("*", 1000000), strings.Repeat("@", 1000000), strings.Repeat("1", 1000000) + "*a@1",
	} {
		checkWagerRead(t, text, impl.Wager{})
	}
	for sign := range 256 {
		text := string([]byte{byte(sign)})
		if sign < '0' || sign > '9' {
			checkWagerRead(t, text+"*a@1", impl.Wager{})
		}
		if sign < '0' || sign > '6' {
			checkWagerRead(t, "1*a@"+text, impl.Wager{})
		}
		if sign != '-' {
			checkWagerRead(t, text+"1*a@1", impl.Wager{})
		}
		checkWagerRead(t, "1*a@1"+text, impl.Wager{})
	}
}

func TestGainsOfSomeWagers(t *testing.T) {
	for _, c := range []struct {
		text string
		want []int
	}{
		{"1*a@2", []int{-2, 4, -2, 4}},
		{"1*b@2", []int{-2, -2, 4, 4}},
		{"-2*a|b@4", []int{8, -4, -4, -4}},
		{"1*!a@0", []int{6, 0, 6, 0}},
		{"1*!!a@0", []int{0, 6, 0, 6}},
		{"1*a&b@6", []int{-6, -6, -6, 0}},
		{"0*a&b@3", []int{0, 0, 0, 0}},
		{"9*a&!a@6", []int{-54, -54, -54, -54}}, // never
		{"-9*a&!a@6", []int{54, 54, 54, 54}},
		{"9*a&!a@0", []int{0, 0, 0, 0}},
		{"9*a|!a@0", []int{54, 54, 54, 54}}, // always
		{"9*a|!a@6", []int{0, 0, 0, 0}},
		{"-9*!(a&!a)@0", []int{-54, -54, -54, -54}},
		{"3*!(a|b)@1", []int{15, -3, -3, -3}}, // one event in different words
		{"3*!a&!b@1", []int{15, -3, -3, -3}},
	} {
		w, ok := impl.ReadWager(c.text)
		if got := impl.WagerGain(w); !ok || !slices.Equal(got, c.want) {
			t.Errorf("WagerGain of %q = %v, not %v", c.text, got, c.want)
		}
	}
	eachNoWager(func(w impl.Wager) {
		if gain := impl.WagerGain(w); len(gain) != 0 {
			t.Fatalf("WagerGain(%v) = %v", w, gain)
		}
	})
}

func TestPromise59AWagerIsTheOtherSideOfTheOtherWager(t *testing.T) {
	most := 0
	eachWager(func(stake int, by tree, price int) {
		w := wagerOf(stake, by, price)
		gain := impl.WagerGain(w)
		for world, amount := range gain {
			if amount != brought(4, impl.Quote{Event: by.event(), Price: price}, stake, world) {
				t.Fatalf("WagerGain(%v) = %v", w, gain)
			}
		}
		if bet := impl.GainOf(4, impl.Quote{Event: impl.EventOfTerm(w.By), Price: price}, stake); len(gain) != 4 || !slices.Equal(gain, bet) {
			t.Fatalf("WagerGain(%v) = %v, but the bet brings %v", w, gain, bet)
		}
		other := wagerOf(-stake, nots(1, by), impl.Whole-price)
		turned := impl.WagerGain(other)
		if len(w.By) == impl.MaxMarks {
			most++
			if impl.WagerOk(other) || len(turned) != 0 {
				t.Fatalf("WagerGain(%v) = %v, of %d marks", other, turned, len(other.By))
			}
			return
		}
		if !impl.WagerOk(other) || !slices.Equal(turned, gain) {
			t.Fatalf("WagerGain(%v) = %v, but of the other side %v", w, gain, turned)
		}
	})
	if most == 0 {
		t.Error("no wager has so many marks that none can be behind them")
	}
}

func TestPromise60TermsOfOneEventAreOneBet(t *testing.T) {
	others := make(map[int]int)
	eachWager(func(stake int, by tree, price int) {
		w := wagerOf(stake, by, price)
		event := impl.EventOfTerm(w.By)
		sum := impl.Wager{Stake: stake, By: impl.SumTerm(event), Price: price}
		if gain := impl.WagerGain(w); len(gain) != 4 || !slices.Equal(gain, impl.WagerGain(sum)) {
			t.Fatalf("WagerGain(%v) = %v, but on the sum of its worlds it is %v", w, gain, impl.WagerGain(sum))
		}
		if !slices.Equal(sum.By, w.By) {
			others[event]++
		}
	})
	if len(others) < 10 {
		t.Errorf("only %d events have wagers in other words", len(others))
	}
}

func TestTermsAreNewMemory(t *testing.T) {
	spare := slices.Repeat([]impl.Mark{{Kind: 9, At: 9}}, 5)
	other := impl.Mark{Kind: 7, At: 7}
	for _, x := range wagerTrees() {
		room := append(x.marks(), spare...)
		checkNewItems(t, room, len(x.marks()), other, func(row []impl.Mark) []impl.Mark {
			term, _ := impl.ReadTerm(impl.TermText(row))
			return term
		})
		checkNewItems(t, room, len(x.marks()), other, func(row []impl.Mark) []impl.Mark {
			return impl.SumTerm(impl.EventOfTerm(row))
		})
		checkNewItems(t, room, len(x.marks()), other, func(row []impl.Mark) []impl.Mark {
			w, _ := impl.ReadWager(impl.WagerText(impl.Wager{Stake: -3, By: row, Price: 4}))
			return w.By
		})
		for _, stake := range []int{-9, 0, 1} {
			checkNewMemory(t, []int{stake, 9, 9, 9, 9}, 1, func(row []int) []int {
				return impl.WagerGain(wagerOf(row[0], x, 2))
			})
		}
	}
}

// TestTermsAreOnlyRead: no function writes to a term, or to the room behind it, also not for rows that are none, and for wagers that are none.
func TestTermsAreOnlyRead(t *testing.T) {
	check := func(row []impl.Mark) {
		t.Helper()
		room := append(slices.Clone(row), slices.Repeat([]impl.Mark{{Kind: 9, At: 9}}, 5)...)
		before := slices.Clone(room)
		term := room[:len(row)]
		impl.TermOk(term)
		impl.EventOfTerm(term)
		impl.TermText(term)
		for _, stake := range []int{-9, 0, 1, 10} {
			w := impl.Wager{Stake: stake, By: term, Price: 6}
			impl.WagerOk(w)
			impl.WagerText(w)
			impl.WagerGain(w)
		}
		if !slices.Equal(room, before) {
			t.Fatalf("%v was written to: %v", before, room)
		}
	}
	eachTree(func(x tree) { check(x.marks()) })
	eachNoTerm(check)
}
