package tests

import (
	"math"
	"slices"
	"strings"
	"sync"
	"testing"

	"loop.example/fairbooks/impl"
)

// isStore tells what StoreOk has to report.
func isStore(s impl.Store) bool {
	_, ok := placeByPattern(s.Saved)
	return ok && len(s.Log) <= 1000 && s.Sure >= 0 && s.Sure <= len(s.Log)
}

// opened tells what StoreOpen has to return for a store that is one.
func opened(s impl.Store) stand {
	saved, _ := placeByPattern(s.Saved)
	list, _ := journalByLines(s.Log)
	x, _ := stand{now: saved}.runOf(list)
	return x
}

// fillLog returns a log of so many bytes, from 24 on, whose deeds cannot be done where there are no ten quotes and no places of before.
func fillLog(size int) string {
	drops := 0
	for (size-7*drops)%5 != 0 {
		drops++
	}
	return strings.Repeat("drop 9\n", drops) + strings.Repeat("back\n", (size-7*drops)/5)
}

// tornEnds has what may be behind the last good line of a log.
var tornEnds = []string{"b", "back", "take 0 -", "\n", "\n\n", "x\n", "back \n", "take 0 01\n", "\x00", "\xff\n", "place\n", "drop 9\r\n", "\nback\n", "x\nback\ndrop 0\n", "quote (a) 1\ntake 0 1\n"}

// someLogs returns logs: the empty one, drawn deeds of which some can be done, whole, cut in a drawn place, and torn in other ways, with other bytes alone, and of MaxLog bytes.
var someLogs = sync.OnceValue(func() []string {
	draw := drawer(150)
	list := []string{"", "back\n", "drop 1\ntake 0 2\n", "take 0 1\nback\n", "quote a&b 1\ntake 2 4\ndrop 0\n"}
	for count := 1; count <= 12; count++ {
		for range 3 {
			text := journalOf(drawDeeds(draw, count))
			list = append(list, text, text[:draw(len(text))], text+tornEnds[draw(len(tornEnds))])
			at := strings.Index(text, "\n") + 1
			list = append(list, text[:at]+tornEnds[draw(len(tornEnds))]+text[at:])
		}
	}
	list = append(list, tornEnds...)
	list = append(list, fillLog(24), fillLog(999), fillLog(1000), fillLog(991)+"take 0 1\n", fillLog(988)+"take 0 1\nbac", strings.Repeat("x", 1000), strings.Repeat("\n", 1000))
	return append(list, strings.Repeat("take 0 1\ntake 0 -1\n", 52)+"take 0 1\nba")
})

// logPlaces returns the places that are saved in the tested stores.
func logPlaces() []lot {
	list := []lot{{}, exampleLot}
	lots := someLots()
	for i := 7; i < len(lots); i += 29 {
		list = append(list, lots[i])
	}
	return list
}

// someStores returns stores of some places with some logs, of which no bytes, all, or so many between are sure.
var someStores = sync.OnceValue(func() []impl.Store {
	draw := drawer(151)
	var list []impl.Store
	places := logPlaces()
	for i, log := range someLogs() {
		for k, x := range places {
			if k > 1 && (i+k)%5 != 0 {
				continue
			}
			s := impl.Store{Saved: x.text(), Log: log}
			list = append(list, s)
			s.Sure = []int{len(log), draw(len(log) + 1), strings.LastIndex(log, "\n") + 1}[(i+k)%3]
			list = append(list, s)
		}
	}
	return list
})

// badStores returns what is no store: with a saved text that is no place, with one byte more than MaxLog or many more, and with fewer sure bytes than none or more than there are.
func badStores() []impl.Store {
	var list []impl.Store
	for _, saved := range []string{"", " ", ". ", "..", "x", "6", "6:4", "6:4:10", "6:4:0,", "16:0:0", "0:1:0", "10:2:0,10:3:0", "1:3:0,2:3:0,4:1:0", "6:4:0,6:4:0,6:4:0,6:4:0", "6:4:-0", "6:4:0\n", "back\n", strings.Repeat("6:4:0,", 100000)} {
		list = append(list, impl.Store{Saved: saved}, impl.Store{Saved: saved, Log: "back\n", Sure: 5})
	}
	for _, x := range unfairLots()[:30] {
		list = append(list, impl.Store{Saved: x.text()})
	}
	for _, saved := range []string{".", "6:4:0"} {
		for _, log := range []string{fillLog(1001), fillLog(1002), fillLog(2000), strings.Repeat("x", 1001), strings.Repeat("back\n", 20000)} {
			for _, sure := range []int{0, 1, 1000, len(log)} {
				list = append(list, impl.Store{Saved: saved, Log: log, Sure: sure})
			}
		}
		for _, log := range []string{"", "back\n", "x", fillLog(1000)} {
			for _, sure := range []int{math.MinInt, math.MinInt + 1, math.MinInt32, -1000, -2, -1, len(log) + 1, len(log) + 2, 1001, math.MaxInt32, 1 << 32, 1<<32 + 1, math.MaxInt - 1, math.MaxInt} {
				list = append(list, impl.Store{Saved: saved, Log: log, Sure: sure})
			}
		}
	}
	return append(list, impl.Store{})
}

// checkStore tests that a store is one, and the wanted one.
func checkStore(t *testing.T, got impl.Store, ok bool, want impl.Store) {
	t.Helper()
	if !ok || got != want || !impl.StoreOk(got) {
		t.Fatalf("the store is %#v, %t, not %#v", got, ok, want)
	}
}

// checkOpens tests that the desk of a store is that of a stand.
func checkOpens(t *testing.T, s impl.Store, want stand) {
	t.Helper()
	d, ok := impl.StoreOpen(s)
	if !ok || !impl.DeskOk(d) {
		t.Fatalf("StoreOpen(%#v) = %v, %t", s, d, ok)
	}
	checkDesk(t, d, want)
}

func TestNoStores(t *testing.T) {
	for _, s := range badStores() {
		if isStore(s) {
			t.Fatalf("%#v is a store", s)
		}
		if impl.StoreOk(s) {
			t.Fatalf("StoreOk(%#v)", s)
		}
		if d, ok := impl.StoreOpen(s); ok || !sameDesks(d, impl.Desk{}) {
			t.Fatalf("StoreOpen(%#v) = %v, %t", s, d, ok)
		}
		check := func(name string, got impl.Store, ok bool) {
			t.Helper()
			if ok || got != (impl.Store{}) {
				t.Fatalf("%s of %#v = %#v, %t", name, s, got, ok)
			}
		}
		for _, a := range []impl.Deed{{Words: "a", A: 1}, {Kind: impl.DkTake, B: 1}, {Kind: impl.DkDrop}, {Kind: impl.DkBack}, {Kind: 5}} {
			acted, ok := impl.StoreAct(s, a)
			check("StoreAct", acted, ok)
		}
		synced, ok := impl.StoreSync(s)
		check("StoreSync", synced, ok)
		saved, ok := impl.StoreSave(s)
		check("StoreSave", saved, ok)
		mended, ok := impl.StoreMend(s)
		check("StoreMend", mended, ok)
		for _, left := range []int{math.MinInt, -1, 0, 1, 5, s.Sure, len(s.Log), 1000, 1001, math.MaxInt} {
			crashed, ok := impl.StoreCrash(s, left)
			check("StoreCrash", crashed, ok)
		}
	}
}

func TestPromise93EmptyLogsAreLogs(t *testing.T) {
	for _, x := range someLots() {
		if s := (impl.Store{Saved: x.text()}); !impl.StoreOk(s) {
			t.Fatalf("StoreOk(%#v) = false", s)
		}
	}
	for _, s := range someStores() {
		if !impl.StoreOk(s) || !isStore(s) {
			t.Fatalf("StoreOk(%#v) = false", s)
		}
		if empty := (impl.Store{Saved: s.Saved}); !impl.StoreOk(empty) {
			t.Fatalf("StoreOk(%#v) = false", empty)
		}
		for ; s.Sure >= 0; s.Sure-- {
			if !impl.StoreOk(s) {
				t.Fatalf("with fewer bytes sure StoreOk(%#v) = false", s)
			}
			if s.Sure > 20 {
				s.Sure -= 10
			}
		}
		if impl.StoreOk(s) {
			t.Fatalf("StoreOk(%#v)", s)
		}
	}
	for size := 990; size <= 1010; size++ {
		for _, log := range []string{fillLog(size), strings.Repeat("\xff", size)} {
			if ok := impl.StoreOk(impl.Store{Saved: ".", Log: log, Sure: size}); ok != (size <= 1000) {
				t.Errorf("of a log of %d bytes StoreOk = %t", size, ok)
			}
		}
	}
}

func TestPromise94NewStoresOpenWithTheirPlace(t *testing.T) {
	for _, x := range someLots() {
		s, ok := impl.StoreNew(x.place())
		checkStore(t, s, ok, impl.Store{Saved: x.text()})
		checkOpens(t, s, stand{now: x})
		d, _ := impl.DeskNew(x.place())
		if of, _ := impl.StoreOpen(s); !sameDesks(of, d) {
			t.Fatalf("the desk of %#v is %v, not %v", s, of, d)
		}
	}
	eachBadPlace(func(p impl.Place) {
		if s, ok := impl.StoreNew(p); ok || s != (impl.Store{}) {
			t.Fatalf("StoreNew(%v) = %#v, %t", p, s, ok)
		}
	})
}

func TestPromise95OpenedAgainItIsTheSame(t *testing.T) {
	changed, torn := 0, 0
	for _, s := range someStores() {
		want := opened(s)
		checkOpens(t, s, want)
		checkOpens(t, s, want)
		mended, _ := impl.StoreMend(s)
		checkOpens(t, mended, want)
		synced, _ := impl.StoreSync(s)
		checkOpens(t, synced, want)
		if want.now.text() != s.Saved {
			changed++
		}
		if mended.Log != s.Log {
			torn++
		}
	}
	if changed < 100 || torn < 100 {
		t.Errorf("%d logs change the place, and %d are torn", changed, torn)
	}
}

func TestSomeStores(t *testing.T) {
	for _, c := range []struct {
		saved string
		log   string
		place string
		past  int
		read  int
	}{
		{".", "", ".", 0, 0},
		{".", "back\n", ".", 0, 5}, // read, but not done
		{".", "quote a 2\n", "10:2:0", 1, 10},
		{".", "quote a 2", ".", 0, 0},
		{".", "quote a 2\ntake 0 -3\n", "10:2:-3", 2, 20},
		{".", "quote a 2\ntake 0 -3", "10:2:0", 1, 10},
		{".", "quote a 2\ntake 0 -3\nback\n", "10:2:0", 1, 25},
		{".", "quote a 2\ntake 0 -3\nback\nback\nback\n", ".", 0, 35},
		{".", "quote a 2\nquote a 3\ntake 0 1\n", "10:2:1", 2, 29}, // one between that cannot be done
		{".", "quote a 2\n\ntake 0 1\n", "10:2:0", 1, 10},          // an empty line
		{".", "quote a 2\nx\ntake 0 1\n", "10:2:0", 1, 10},
		{".", "\nquote a 2\n", ".", 0, 0},
		{"6:4:0", "take 0 9\ntake 0 1\n", "6:4:9", 1, 18},
		{"6:4:0", "drop 0\ndrop 0\nback\n", "6:4:0", 0, 19},
		{"6:4:0", strings.Repeat("take 0 1\ntake 0 -1\n", 30), "6:4:0", 8, 570}, // more than MaxLines deeds
		{"6:4:0", strings.Repeat("take 0 1\n", 100), "6:4:9", 8, 900},
		{"6:4:0", strings.Repeat("take 0 1\n", 111) + "\n", "6:4:9", 8, 999},
		{"10:2:1,12:3:-1", "drop 1\ntake 0 2\n", "10:2:3", 2, 16},
		{"10:2:1,12:3:-1", "drop 1\ntake", "10:2:1", 1, 7},
	} {
		s := impl.Store{Saved: c.saved, Log: c.log}
		d, ok := impl.StoreOpen(s)
		if !ok || impl.PlaceText(d.Now) != c.place || len(d.Past) != c.past {
			t.Errorf("StoreOpen(%#v) = %v, %t", s, d, ok)
		}
		m, ok := impl.StoreMend(s)
		checkStore(t, m, ok, impl.Store{Saved: c.saved, Log: c.log[:c.read]})
		v, ok := impl.StoreSave(s)
		checkStore(t, v, ok, impl.Store{Saved: c.place})
	}
}

// checkAct tests what StoreAct returns for a store and a deed, and what promise 96 says of it.
func checkAct(t *testing.T, s impl.Store, a impl.Deed) (impl.Store, bool) {
	t.Helper()
	before := opened(s)
	next, done := before.after(a)
	_, read := journalByLines(s.Log)
	want, wantOk := s, read == len(s.Log) && done && len(s.Log)+len(textByWords(a))+1 <= 1000
	if wantOk {
		want.Log += textByWords(a) + "\n"
	} else {
		next = before
	}
	acted, ok := impl.StoreAct(s, a)
	if ok != wantOk || acted != want || !impl.StoreOk(acted) {
		t.Fatalf("StoreAct(%#v, %v) = %#v, %t, not %#v, %t", s, a, acted, ok, want, wantOk)
	}
	checkOpens(t, acted, next)
	return acted, ok
}

func TestPromise96WhatIsActedIsDoneAtTheDesk(t *testing.T) {
	draw, tried := drawer(96), triedDeeds()
	acted, refused := 0, 0
	for _, s := range someStores() {
		for i := range 10 {
			a := tried[draw(len(tried))]
			if i < 7 {
				a = drawDeed(draw)
			}
			if _, ok := checkAct(t, s, a); ok {
				acted++
			} else {
				refused++
			}
		}
	}
	if acted < 500 || refused < 1000 {
		t.Errorf("%d deeds were acted, and %d were not", acted, refused)
	}
	for _, log := range []string{"", "take 0 1\n", "take 0 1\nback\n"} {
		for _, a := range tried {
			checkAct(t, impl.Store{Saved: exampleLot.text(), Log: log, Sure: len(log) / 2}, a)
		}
	}
}

// TestActsThatJustFit: a deed is acted just if the log has at most MaxLog bytes with its text and the newline.
func TestActsThatJustFit(t *testing.T) {
	for _, a := range []impl.Deed{{Kind: impl.DkTake, B: 1}, {Kind: impl.DkTake, B: -10}, {Kind: impl.DkDrop}, {Kind: impl.DkBack}, {Kind: impl.DkPrice, A: 1, B: 4}, {A: 1, Words: "a&b"}, {A: 3, Words: strings.Repeat("!", 38) + "b"}} {
		long := len(textByWords(a)) + 1
		for size := 1000 - long - 3; size <= 1000; size++ {
			s := impl.Store{Saved: "10:2:1,12:3:-1", Log: fillLog(size-9) + "take 0 1\n", Sure: 7}
			if _, ok := checkAct(t, s, a); ok != (size+long <= 1000) {
				t.Errorf("behind %d bytes %v is acted: %t", size, a, ok)
			}
		}
	}
}

func TestPromise97WhatIsSureCannotBeLost(t *testing.T) {
	for _, s := range someStores() {
		synced, ok := impl.StoreSync(s)
		checkStore(t, synced, ok, impl.Store{Saved: s.Saved, Log: s.Log, Sure: len(s.Log)})
		for left := -1; left <= len(s.Log)+1; left++ {
			if left > 1 && left < len(s.Log)-2 && left%17 != 0 {
				continue
			}
			crashed, ok := impl.StoreCrash(synced, left)
			if left == len(s.Log) {
				checkStore(t, crashed, ok, synced)
			} else if ok || crashed != (impl.Store{}) {
				t.Fatalf("StoreCrash(%#v, %d) = %#v, %t", synced, left, crashed, ok)
			}
		}
		again, ok := impl.StoreSync(synced)
		checkStore(t, again, ok, synced)
	}
}

func TestPromise98SavedIsSaved(t *testing.T) {
	for _, s := range someStores() {
		before := opened(s)
		saved, ok := impl.StoreSave(s)
		checkStore(t, saved, ok, impl.Store{Saved: before.now.text()})
		checkOpens(t, saved, stand{now: before.now})
		for _, left := range []int{math.MinInt, -1, 0, 1, len(s.Log) + 1, math.MaxInt} {
			crashed, ok := impl.StoreCrash(saved, left)
			if left == 0 {
				checkStore(t, crashed, ok, saved)
			} else if ok || crashed != (impl.Store{}) {
				t.Fatalf("StoreCrash(%#v, %d) = %#v, %t", saved, left, crashed, ok)
			}
		}
		again, ok := impl.StoreSave(saved)
		checkStore(t, again, ok, saved)
	}
}

// checkCrash tests what StoreCrash returns for a store with so many bytes left; it tells whether that may be.
func checkCrash(t *testing.T, s impl.Store, left int) (impl.Store, bool) {
	t.Helper()
	crashed, ok := impl.StoreCrash(s, left)
	if left < s.Sure || left > len(s.Log) {
		if ok || crashed != (impl.Store{}) {
			t.Fatalf("StoreCrash(%#v, %d) = %#v, %t", s, left, crashed, ok)
		}
		return s, false
	}
	checkStore(t, crashed, ok, impl.Store{Saved: s.Saved, Log: s.Log[:left], Sure: s.Sure})
	return crashed, true
}

func TestPromise99BrokenDownTwiceIsBrokenDownOnce(t *testing.T) {
	draw, may, mayNot := drawer(99), 0, 0
	for _, s := range someStores() {
		for _, left := range []int{math.MinInt, -1, 0, 1, s.Sure - 1, s.Sure, s.Sure + 1, draw(len(s.Log) + 1), len(s.Log) - 1, len(s.Log), len(s.Log) + 1, 1000, 1001, math.MaxInt} {
			crashed, ok := checkCrash(t, s, left)
			if !ok {
				mayNot++
				continue
			}
			may++
			again, _ := checkCrash(t, crashed, left)
			checkStore(t, again, true, crashed)
			checkCrash(t, crashed, left+1) // more cannot be left than was
			fewer := s.Sure + draw(left-s.Sure+1)
			twice, _ := checkCrash(t, crashed, fewer)
			once, _ := checkCrash(t, s, fewer)
			checkStore(t, twice, true, once)
		}
	}
	if may < 1000 || mayNot < 1000 {
		t.Errorf("%d breakdowns may be, and %d may not", may, mayNot)
	}
}

// nearerStake returns the deed of promise 105: the stake of the first quote one nearer to 0, or 1 if it is 0.
func nearerStake(x lot) impl.Deed {
	if x.stakes[0] > 0 {
		return impl.Deed{Kind: impl.DkTake, B: -1}
	}
	return impl.Deed{Kind: impl.DkTake, B: 1}
}

func TestPromise105MendedTheLogIsReadWhole(t *testing.T) {
	acted, less := 0, 0
	for _, s := range someStores() {
		list, read := journalByLines(s.Log)
		mended, ok := impl.StoreMend(s)
		checkStore(t, mended, ok, impl.Store{Saved: s.Saved, Log: s.Log[:read], Sure: min(s.Sure, read)})
		if again, count := impl.ReadJournal(mended.Log); count != len(mended.Log) || !slices.Equal(again, list) {
			t.Fatalf("of the log of %#v %d bytes are read", mended, count)
		}
		again, ok := impl.StoreMend(mended)
		checkStore(t, again, ok, mended)
		if mended.Sure < s.Sure {
			less++
		}
		x := opened(mended)
		if x.now.count == 0 || len(mended.Log) > 990 {
			continue
		}
		if _, ok := checkAct(t, mended, nearerStake(x.now)); !ok {
			t.Fatalf("at %#v %v is not acted", mended, nearerStake(x.now))
		}
		acted++
	}
	if acted < 200 || less < 50 {
		t.Errorf("%d deeds were acted, and of %d stores fewer bytes are sure", acted, less)
	}
}

// TestTornStores: a torn log takes no deed until it is mended, but may be saved, made sure, opened and broken down.
func TestTornStores(t *testing.T) {
	for _, end := range tornEnds {
		for _, sure := range []int{0, 9, 18, 18 + len(end)} {
			s := impl.Store{Saved: "6:4:0", Log: "take 0 1\ntake 0 3\n" + end, Sure: sure}
			for _, a := range []impl.Deed{{Kind: impl.DkTake, B: 1}, {Kind: impl.DkBack}, {Kind: impl.DkDrop}, {Words: "a", A: 1}} {
				acted, ok := impl.StoreAct(s, a)
				if ok || acted != s {
					t.Fatalf("StoreAct(%#v, %v) = %#v, %t", s, a, acted, ok)
				}
				mended, _ := impl.StoreMend(s)
				want := mended
				want.Log += textByWords(a) + "\n"
				acted, ok = impl.StoreAct(mended, a)
				checkStore(t, acted, ok, want)
			}
			d, ok := impl.StoreOpen(s)
			if !ok || impl.PlaceText(d.Now) != "6:4:4" {
				t.Fatalf("StoreOpen(%#v) = %v, %t", s, d, ok)
			}
			saved, ok := impl.StoreSave(s)
			checkStore(t, saved, ok, impl.Store{Saved: "6:4:4"})
			synced, ok := impl.StoreSync(s)
			checkStore(t, synced, ok, impl.Store{Saved: s.Saved, Log: s.Log, Sure: len(s.Log)})
			mended, ok := impl.StoreMend(synced)
			checkStore(t, mended, ok, impl.Store{Saved: s.Saved, Log: s.Log[:18], Sure: 18})
		}
	}
}

func TestPromise100WhatWasSureIsNeverLost(t *testing.T) {
	torn := 0
	for i, s := range someStores() {
		all, _ := journalByLines(s.Log)
		sure, _ := journalByLines(s.Log[:s.Sure])
		saved, _ := placeByPattern(s.Saved)
		step := 1
		if len(s.Log) > 200 || i%3 > 0 {
			step = 1 + len(s.Log)/20 // of long logs, and of most of the others, not each number of bytes
		}
		for left := s.Sure; left <= len(s.Log); left += step {
			crashed, ok := impl.StoreCrash(s, left)
			if !ok {
				t.Fatalf("StoreCrash(%#v, %d) is told nothing", s, left)
			}
			list, read := impl.ReadJournal(crashed.Log)
			if len(list) > len(all) || !slices.Equal(list, all[:len(list)]) || len(list) < len(sure) || !slices.Equal(list[:len(sure)], sure) {
				t.Fatalf("of %#v with %d bytes left %v are read", s, left, list)
			}
			want, _ := stand{now: saved}.runOf(list)
			checkOpens(t, crashed, want)
			if len(list) <= 40 {
				d, _ := impl.DeskNew(saved.place())
				d, _ = impl.DeskRun(d, list)
				checkDesk(t, d, want)
			}
			if read < left {
				torn++
			}
		}
	}
	if torn < 1000 {
		t.Errorf("%d logs are torn by a breakdown", torn)
	}
}

func TestPromise101ByAnyWayItIsTheSamePlace(t *testing.T) {
	draw, done := drawer(101), 0
	for _, x := range logPlaces() {
		for range 6 {
			d, _ := impl.DeskNew(x.place())
			store, _ := impl.StoreNew(x.place())
			onTheWay := store
			for range 25 {
				a := drawDeed(draw)
				next, ok := impl.DeskDo(d, a)
				acted, actedOk := impl.StoreAct(store, a)
				of, _ := impl.StoreOpen(acted)
				if actedOk != ok || !sameDesks(of, next) {
					t.Fatalf("%v leads from %v to %v, and at %#v to %v", a, d, next, store, of)
				}
				if a.Kind == impl.DkBack {
					// A store that is saved on the way forgets the places of before: so nothing is put back on this way.
					continue
				}
				if ok {
					done++
				}
				d, store = next, acted
				onTheWay, _ = impl.StoreAct(onTheWay, a)
				switch draw(4) {
				case 0:
					onTheWay, _ = impl.StoreSave(onTheWay)
				case 1:
					onTheWay, _ = impl.StoreSync(onTheWay)
				}
				if of, ok := impl.StoreOpen(onTheWay); !ok || !samePlaces(of.Now, d.Now) {
					t.Fatalf("%v lead to %v, and by %#v to %v", a, d, onTheWay, of)
				}
			}
		}
	}
	if done < 200 {
		t.Errorf("%d deeds were done", done)
	}
}

// TestMadeSureOnTheWay: a store that is only made sure on the way leads to the same desk, also with what is put back.
func TestMadeSureOnTheWay(t *testing.T) {
	draw := drawer(102)
	for _, x := range logPlaces() {
		store, _ := impl.StoreNew(x.place())
		want := stand{now: x}
		for range 40 {
			a := drawDeed(draw)
			if next, ok := want.after(a); ok {
				want = next
			}
			store, _ = impl.StoreAct(store, a)
			if draw(2) == 0 {
				store, _ = impl.StoreSync(store)
			}
			checkOpens(t, store, want)
		}
		saved, _ := impl.StoreSave(store)
		if acted, ok := impl.StoreAct(saved, impl.Deed{Kind: impl.DkBack}); ok || acted != saved {
			t.Fatalf("at %#v something is put back: %#v", saved, acted)
		}
	}
}

func TestPromise102InTheEndAllIsThereAgain(t *testing.T) {
	lost := 0
	for i, s := range someStores() {
		if i%2 == 1 && s.Sure == len(s.Log) || len(s.Log) > 400 && i%7 > 0 {
			continue
		}
		before := opened(s)
		all, _ := journalByLines(s.Log)
		for left := s.Sure; left <= len(s.Log); left += 1 + len(s.Log)/12 {
			store, _ := impl.StoreCrash(s, left)
			store, ok := impl.StoreMend(store)
			if !ok {
				t.Fatalf("%#v with %d bytes left is not mended", s, left)
			}
			still, _ := journalByLines(store.Log)
			for _, a := range all[len(still):] {
				if acted, ok := impl.StoreAct(store, a); ok {
					store = acted
					lost++
				}
			}
			checkOpens(t, store, before)
		}
	}
	if lost < 500 {
		t.Errorf("%d deeds were acted once more", lost)
	}
}

func TestDesksOfStoresAreNewMemory(t *testing.T) {
	for i, s := range someStores() {
		if i%5 > 0 {
			continue
		}
		first, _ := impl.StoreOpen(s)
		second, _ := impl.StoreOpen(s)
		checkApart(t, append(spansOfDesk(first), spansOfDesk(second)...))
		for _, p := range append(first.Past, first.Now) {
			for k := range p.Book {
				p.Book[k], p.Stakes[k] = impl.Quote{Event: 77, Price: 77}, 77
			}
		}
		checkOpens(t, s, opened(s))
	}
}
