package span_test

import (
	"math"
	"math/big"
	"math/rand"
	"slices"
	"testing"

	"dray/api"
	"dray/span"
)

const (
	// longest holds the bound anew, as the document's table of limits says it.
	longest  = 1000000
	greatest = math.MaxInt
	least    = math.MinInt
)

// edges holds the times at which an answer may turn, in ascending order.
var edges = []int{
	least, least + 1, -longest - 1, -longest, -2, -1, 0, 1, 2, 3, 4, 5, 8, 9, 10, longest / 2,
	longest - 2, longest - 1, longest, longest + 1, longest + 2, 1 << 32, 1 << 62, greatest - 1, greatest,
}

// ends holds few enough times to make lists of the windows between them; some are at the bounds, some side by side.
var ends = []int{-1, 0, 1, 4, 5, longest - 1, longest, longest + 1}

func window(from, to int) api.Window { return api.Window{From: from, To: to} }

// windows returns all windows between two of the times, those that are not right too.
func windows(times []int) []api.Window {
	var l []api.Window
	for _, from := range times {
		for _, to := range times {
			l = append(l, window(from, to))
		}
	}
	return l
}

// wantRight is P5.1, word by word.
func wantRight(w api.Window) bool {
	if w.From < 0 {
		return false
	}
	if w.From > w.To {
		return false
	}
	return !(w.To > longest)
}

// wantHas is P5.2, word by word.
func wantHas(w api.Window, t int) bool {
	return wantRight(w) && !(t < w.From) && !(t > w.To)
}

func inAll(l []api.Window, t int) bool {
	for _, w := range l {
		if !wantHas(w, t) {
			return false
		}
	}
	return true
}

// wantMeet is P5.3 by looking at times one by one: where the common times begin and end, there a window does, or they
// begin at 0 or end at MaxTime.
func wantMeet(l []api.Window) (api.Window, bool) {
	times := []int{0, longest}
	for _, w := range l {
		if !wantRight(w) {
			return api.Window{}, false
		}
		times = append(times, w.From, w.To)
	}
	times = slices.DeleteFunc(times, func(t int) bool { return !inAll(l, t) })
	if len(times) == 0 {
		return api.Window{}, false
	}
	return window(slices.Min(times), slices.Max(times)), true
}

// wantBegin is P5.4 by trying the times of the window from its first on.
func wantBegin(w api.Window, arrive int) (int, bool) {
	if !wantRight(w) {
		return 0, false
	}
	for t := w.From; t <= w.To; t++ {
		if !(t < arrive) {
			return t, true
		}
	}
	return 0, false
}

// fits reports whether t + service is at most until, in numbers that can't overflow.
func fits(t, service, until int) bool {
	end := new(big.Int).Add(big.NewInt(int64(t)), big.NewInt(int64(service)))
	return end.Cmp(big.NewInt(int64(until))) <= 0
}

// wantLast is P5.5 by halving: an earlier time fits wherever a later one does.
func wantLast(w api.Window, service, until int) (int, bool) {
	if !wantRight(w) || service < 0 || !fits(w.From, service, until) {
		return 0, false
	}
	low, high := w.From, w.To
	for low < high {
		middle := (low + high + 1) / 2
		if fits(middle, service, until) {
			low = middle
		} else {
			high = middle - 1
		}
	}
	return low, true
}

func checkMeet(t *testing.T, l []api.Window, want api.Window, wantOK bool) {
	t.Helper()
	if got, ok := span.Meet(l...); got != want || ok != wantOK {
		t.Errorf("Meet(%v) = %v, %v, not %v, %v", l, got, ok, want, wantOK)
	}
}

func checkBegin(t *testing.T, w api.Window, arrive, want int, wantOK bool) {
	t.Helper()
	if got, ok := span.Begin(w, arrive); got != want || ok != wantOK {
		t.Errorf("Begin(%v, %d) = %d, %v, not %d, %v", w, arrive, got, ok, want, wantOK)
	}
}

func checkLast(t *testing.T, w api.Window, service, until, want int, wantOK bool) {
	t.Helper()
	if got, ok := span.Last(w, service, until); got != want || ok != wantOK {
		t.Errorf("Last(%v, %d, %d) = %d, %v, not %d, %v", w, service, until, got, ok, want, wantOK)
	}
}

// forOrders calls f with the windows in every order.
func forOrders(l []api.Window, f func(l []api.Window)) {
	order := slices.Clone(l)
	var swap func(i int)
	swap = func(i int) {
		if i == len(order) {
			f(slices.Clone(order))
			return
		}
		for j := i; j < len(order); j++ {
			order[i], order[j] = order[j], order[i]
			swap(i + 1)
			order[i], order[j] = order[j], order[i]
		}
	}
	swap(0)
}

// forMixed calls f with lists of right windows, the same in every run, of narrow ones and of wide ones.
func forMixed(f func(l []api.Window)) {
	source := rand.New(rand.NewSource(5))
	for round := range 3000 {
		bound := []int{4, 20, 1000, longest + 1}[source.Intn(4)]
		l := make([]api.Window, round%7)
		for i := range l {
			a, b := source.Intn(bound), source.Intn(bound)
			l[i] = window(min(a, b), max(a, b))
		}
		f(l)
	}
}

// P5.1
func TestRight(t *testing.T) {
	for _, c := range []struct {
		from, to int
		want     bool
	}{
		{0, 0, true}, {0, 1, true}, {3, 9, true}, {3, 3, true}, {1, longest - 1, true},
		{0, longest, true}, {longest, longest, true}, {longest - 1, longest, true}, {longest - 1, longest - 1, true},
		{-1, -1, false}, {-1, 0, false}, {-1, 3, false}, {-1, longest, false}, {-5, -3, false},
		{0, longest + 1, false}, {3, longest + 1, false}, {longest, longest + 1, false}, {longest + 1, longest + 1, false},
		{longest + 1, longest, false}, {longest + 1, longest + 2, false},
		{1, 0, false}, {4, 3, false}, {9, 3, false}, {longest, longest - 1, false}, {longest, 0, false}, {0, -1, false},
		{-1, longest + 1, false}, {longest + 1, -1, false},
		{least, greatest, false}, {greatest, least, false}, {least, least, false}, {greatest, greatest, false},
		{0, greatest, false}, {0, least, false}, {least, 0, false}, {greatest, 0, false},
		{least, longest, false}, {greatest, longest, false},
		// In 32 bits these would be right.
		{1 << 32, 1<<32 + 5, false}, {0, 1<<32 + 5, false},
	} {
		if got := span.Right(window(c.from, c.to)); got != c.want {
			t.Errorf("Right(%d to %d) = %v", c.from, c.to, got)
		}
	}
	if longest != api.MaxTime {
		t.Errorf("MaxTime = %d", api.MaxTime)
	}
}

// P5.1, at every pair of edges
func TestRightAtEdges(t *testing.T) {
	for _, w := range windows(edges) {
		if got, want := span.Right(w), wantRight(w); got != want {
			t.Errorf("Right(%v) = %v, not %v", w, got, want)
		}
	}
}

// P5.2
func TestHas(t *testing.T) {
	for _, c := range []struct {
		w    api.Window
		t    int
		want bool
	}{
		{window(3, 9), 2, false}, {window(3, 9), 3, true}, {window(3, 9), 4, true}, {window(3, 9), 8, true},
		{window(3, 9), 9, true}, {window(3, 9), 10, false}, {window(3, 9), 0, false}, {window(3, 9), -3, false},
		{window(3, 9), least, false}, {window(3, 9), greatest, false}, {window(3, 9), 1<<32 + 5, false},
		{window(5, 5), 4, false}, {window(5, 5), 5, true}, {window(5, 5), 6, false},
		{window(0, 0), -1, false}, {window(0, 0), 0, true}, {window(0, 0), 1, false},
		{window(0, longest), -1, false}, {window(0, longest), 0, true}, {window(0, longest), longest / 2, true},
		{window(0, longest), longest, true}, {window(0, longest), longest + 1, false},
		{window(longest, longest), longest - 1, false}, {window(longest, longest), longest, true},
		{window(longest, longest), longest + 1, false},

		// A window that is not right has no time, not even one between its ends.
		{window(-1, 3), 0, false}, {window(-1, 3), -1, false}, {window(-1, 3), 3, false},
		{window(3, longest+1), 3, false}, {window(3, longest+1), 9, false}, {window(3, longest+1), longest + 1, false},
		{window(longest+1, longest+1), longest + 1, false},
		{window(9, 3), 3, false}, {window(9, 3), 5, false}, {window(9, 3), 9, false}, {window(6, 5), 5, false},
		{window(6, 5), 6, false}, {window(least, greatest), 5, false}, {window(least, greatest), least, false},
		{window(least, greatest), greatest, false}, {window(least, least), least, false},
		{window(greatest, greatest), greatest, false},
	} {
		if got := span.Has(c.w, c.t); got != c.want {
			t.Errorf("Has(%v, %d) = %v", c.w, c.t, got)
		}
	}
}

// P5.2, at every edge: ahead of each window, at its ends, within and behind it
func TestHasAtEdges(t *testing.T) {
	for _, w := range windows(edges) {
		for _, at := range edges {
			if got, want := span.Has(w, at), wantHas(w, at); got != want {
				t.Errorf("Has(%v, %d) = %v, not %v", w, at, got, want)
			}
		}
	}
}

// P5.3
func TestMeet(t *testing.T) {
	for _, c := range []struct {
		l    []api.Window
		want api.Window
		ok   bool
	}{
		{nil, window(0, longest), true},
		{[]api.Window{}, window(0, longest), true},
		{[]api.Window{window(3, 9)}, window(3, 9), true},
		{[]api.Window{window(0, 0)}, window(0, 0), true},
		{[]api.Window{window(0, longest)}, window(0, longest), true},
		{[]api.Window{window(longest, longest)}, window(longest, longest), true},
		{[]api.Window{window(3, 9), window(3, 9)}, window(3, 9), true},
		{[]api.Window{window(3, 9), window(5, 12)}, window(5, 9), true},
		{[]api.Window{window(3, 9), window(4, 5)}, window(4, 5), true},
		{[]api.Window{window(3, 9), window(0, longest)}, window(3, 9), true},
		{[]api.Window{window(0, 0), window(0, longest)}, window(0, 0), true},
		{[]api.Window{window(longest, longest), window(0, longest)}, window(longest, longest), true},
		{[]api.Window{window(1, 9), window(4, 8), window(2, 6)}, window(4, 6), true},
		// They touch in one time.
		{[]api.Window{window(3, 5), window(5, 6)}, window(5, 5), true},
		{[]api.Window{window(0, 0), window(0, 5)}, window(0, 0), true},
		{[]api.Window{window(0, 5), window(2, 9), window(5, 5)}, window(5, 5), true},
		{[]api.Window{window(0, 999999), window(999999, longest)}, window(999999, 999999), true},
		// They miss each other by one.
		{[]api.Window{window(3, 4), window(5, 6)}, api.Window{}, false},
		{[]api.Window{window(0, 0), window(1, 1)}, api.Window{}, false},
		{[]api.Window{window(0, longest-1), window(longest, longest)}, api.Window{}, false},
		{[]api.Window{window(0, 4), window(0, longest), window(5, 9)}, api.Window{}, false},
		{[]api.Window{window(0, 1), window(longest-1, longest)}, api.Window{}, false},
		// Only the first and the last of the four have no time in common.
		{[]api.Window{window(0, 6), window(4, 9), window(5, 7), window(7, 8)}, api.Window{}, false},
		// One that is not right.
		{[]api.Window{window(5, 3)}, api.Window{}, false},
		{[]api.Window{window(5, 4)}, api.Window{}, false},
		{[]api.Window{window(-1, 3)}, api.Window{}, false},
		{[]api.Window{window(0, longest+1)}, api.Window{}, false},
		{[]api.Window{window(longest+1, longest+1)}, api.Window{}, false},
		{[]api.Window{window(least, greatest)}, api.Window{}, false},
		{[]api.Window{window(greatest, least)}, api.Window{}, false},
		{[]api.Window{window(0, 9), window(0, longest+1)}, api.Window{}, false},
		{[]api.Window{window(3, 4), window(5, 6), window(-1, 2)}, api.Window{}, false},
	} {
		forOrders(c.l, func(l []api.Window) { checkMeet(t, l, c.want, c.ok) })
	}
}

// P5.3: one window that is not right spoils all, wherever it stands, although the common times are the same without it.
func TestMeetOfWrong(t *testing.T) {
	for _, wrong := range []api.Window{
		window(-1, 9), window(-1, longest), window(2, longest+1), window(0, longest+1), window(-1, longest+1),
		window(6, 5), window(5, 3), window(-1, -1), window(longest+1, longest+1), window(least, greatest),
		window(greatest, least), window(least, 9), window(0, greatest), window(longest+1, 0),
	} {
		for length := 1; length <= 5; length++ {
			for at := range length {
				l := slices.Repeat([]api.Window{window(3, 7)}, length)
				checkMeet(t, l, window(3, 7), true)
				l[at] = wrong
				checkMeet(t, l, api.Window{}, false)
			}
		}
	}
}

// P5.3 and P5.6, for every list of up to three of the windows at the bounds
func TestMeetAtEdges(t *testing.T) {
	all := windows(ends)
	try := func(l ...api.Window) {
		want, wantOK := wantMeet(l)
		checkMeet(t, l, want, wantOK)
	}
	for _, a := range all {
		try(a)
		for _, b := range all {
			try(a, b)
			for _, c := range all {
				try(a, b, c)
			}
		}
	}
}

// P5.3: several windows have one answer, in every order.
func TestMeetInEveryOrder(t *testing.T) {
	for _, l := range [][]api.Window{
		{window(0, 9), window(1, 8), window(2, 7), window(3, 6), window(4, 5)},
		{window(0, 5), window(1, 6), window(2, 7), window(3, 8), window(5, 9)},
		{window(0, 4), window(1, 6), window(2, 7), window(3, 8), window(5, 9)},
		{window(0, longest), window(7, longest), window(0, 7), window(7, 7), window(6, 8)},
		{window(3, 6), window(3, 6), window(4, 6), window(3, 5), window(9, 8)},
	} {
		want, wantOK := wantMeet(l)
		forOrders(l, func(order []api.Window) { checkMeet(t, order, want, wantOK) })
	}
}

// P5.3 and P5.6: a time is in the Meet exactly if it is in all windows, for lists of every length.
func TestMeetHasCommonTimes(t *testing.T) {
	met, missed := 0, 0
	forMixed(func(l []api.Window) {
		want, wantOK := wantMeet(l)
		checkMeet(t, l, want, wantOK)
		common, ok := span.Meet(l...)
		if ok {
			met++
			if !span.Right(common) {
				t.Errorf("Meet(%v) = %v, which is not right", l, common)
			}
		} else {
			missed++
		}
		times := slices.Clone(edges)
		for _, w := range l {
			times = append(times, w.From-1, w.From, w.From+1, w.To-1, w.To, w.To+1, (w.From+w.To)/2)
		}
		for _, at := range times {
			// No windows at all: then the times are those from 0 to MaxTime.
			in := inAll(l, at) && wantHas(window(0, longest), at)
			if got := ok && span.Has(common, at); got != in {
				t.Errorf("%d in Meet(%v) = %v, %v: %v, not %v", at, l, common, ok, got, in)
			}
		}
	})
	if met < 300 || missed < 300 {
		t.Errorf("%d lists have a common time, %d have none", met, missed)
	}
}

// P5.3: a long list, the last window of which decides
func TestMeetOfMany(t *testing.T) {
	l := slices.Repeat([]api.Window{window(3, 9)}, 5000)
	checkMeet(t, l, window(3, 9), true)
	checkMeet(t, append(l, window(9, 12)), window(9, 9), true)
	checkMeet(t, append(l, window(10, 12)), api.Window{}, false)
	checkMeet(t, append(l, window(9, 8)), api.Window{}, false)
}

// P5.4
func TestBegin(t *testing.T) {
	for _, c := range []struct {
		w            api.Window
		arrive, want int
		ok           bool
	}{
		{window(3, 9), least, 3, true}, {window(3, 9), -1, 3, true}, {window(3, 9), 0, 3, true},
		{window(3, 9), 2, 3, true}, {window(3, 9), 3, 3, true}, {window(3, 9), 4, 4, true}, {window(3, 9), 5, 5, true},
		{window(3, 9), 8, 8, true}, {window(3, 9), 9, 9, true}, {window(3, 9), 10, 0, false},
		{window(3, 9), longest, 0, false}, {window(3, 9), longest + 1, 0, false}, {window(3, 9), greatest, 0, false},
		{window(3, 9), 1<<32 + 5, 0, false}, {window(3, 9), -1<<32 + 5, 3, true},
		{window(5, 5), 4, 5, true}, {window(5, 5), 5, 5, true}, {window(5, 5), 6, 0, false},
		{window(0, 0), least, 0, true}, {window(0, 0), -1, 0, true}, {window(0, 0), 0, 0, true},
		{window(0, 0), 1, 0, false}, {window(0, longest), least, 0, true}, {window(0, longest), -1, 0, true},
		{window(0, longest), longest - 1, longest - 1, true}, {window(0, longest), longest, longest, true},
		{window(0, longest), longest + 1, 0, false}, {window(0, longest), greatest, 0, false},
		{window(longest, longest), least, longest, true}, {window(longest, longest), longest - 1, longest, true},
		{window(longest, longest), longest, longest, true}, {window(longest, longest), longest + 1, 0, false},

		{window(9, 3), least, 0, false}, {window(9, 3), 1, 0, false}, {window(9, 3), 3, 0, false},
		{window(9, 3), 5, 0, false}, {window(9, 3), 9, 0, false}, {window(6, 5), 5, 0, false},
		{window(-1, 9), -1, 0, false}, {window(-1, 9), 0, 0, false}, {window(-1, 9), 5, 0, false},
		{window(-1, 9), least, 0, false}, {window(3, longest+1), 1, 0, false}, {window(3, longest+1), 5, 0, false},
		{window(3, longest+1), longest + 1, 0, false}, {window(longest+1, longest+1), 5, 0, false},
		{window(least, greatest), 5, 0, false}, {window(least, greatest), least, 0, false},
		{window(least, greatest), greatest, 0, false}, {window(greatest, greatest), greatest, 0, false},
	} {
		checkBegin(t, c.w, c.arrive, c.want, c.ok)
	}
}

// P5.4, against the times of the window one by one, for every narrow window
func TestBeginOfNarrow(t *testing.T) {
	for _, base := range []int{0, 500, longest - 10} {
		for from := base - 2; from <= base+12; from++ {
			for to := base - 2; to <= base+12; to++ {
				for arrive := base - 4; arrive <= base+14; arrive++ {
					want, wantOK := wantBegin(window(from, to), arrive)
					checkBegin(t, window(from, to), arrive, want, wantOK)
				}
			}
		}
	}
}

// P5.4 and P5.6, at every edge: the answer is in the window, and a later arrival has no earlier one.
func TestBeginAtEdges(t *testing.T) {
	for _, w := range windows(edges) {
		before, gone := least, false
		for _, arrive := range edges {
			got, ok := span.Begin(w, arrive)
			if ok != (wantRight(w) && arrive <= w.To) {
				t.Errorf("Begin(%v, %d) = %d, %v", w, arrive, got, ok)
			}
			if !ok {
				gone = true
				if got != 0 {
					t.Errorf("Begin(%v, %d) = %d beside false", w, arrive, got)
				}
				continue
			}
			if gone || got < before {
				t.Errorf("Begin(%v, %d) = %d, earlier than for an earlier arrival", w, arrive, got)
			}
			if !span.Has(w, got) || got < arrive || (span.Has(w, got-1) && got-1 >= arrive) {
				t.Errorf("Begin(%v, %d) = %d, which is not the first", w, arrive, got)
			}
			before = got
		}
	}
}

// P5.5
func TestLast(t *testing.T) {
	for _, c := range []struct {
		w                    api.Window
		service, until, want int
		ok                   bool
	}{
		// All of the window, one time less, just its first time, none.
		{window(3, 9), 4, 20, 9, true}, {window(3, 9), 4, 14, 9, true}, {window(3, 9), 4, 13, 9, true},
		{window(3, 9), 4, 12, 8, true}, {window(3, 9), 4, 10, 6, true}, {window(3, 9), 4, 8, 4, true},
		{window(3, 9), 4, 7, 3, true}, {window(3, 9), 4, 6, 0, false}, {window(3, 9), 4, 4, 0, false},
		{window(3, 9), 4, 3, 0, false}, {window(3, 9), 4, 0, 0, false}, {window(3, 9), 4, -1, 0, false},
		{window(3, 9), 0, 10, 9, true}, {window(3, 9), 0, 9, 9, true}, {window(3, 9), 0, 8, 8, true},
		{window(3, 9), 0, 3, 3, true}, {window(3, 9), 0, 2, 0, false}, {window(3, 9), 1, 10, 9, true},
		{window(3, 9), 1, 9, 8, true}, {window(3, 9), 1, 4, 3, true}, {window(3, 9), 1, 3, 0, false},
		{window(5, 5), 2, 8, 5, true}, {window(5, 5), 2, 7, 5, true}, {window(5, 5), 2, 6, 0, false},
		{window(0, 0), 0, 0, 0, true}, {window(0, 0), 0, -1, 0, false}, {window(0, 0), 3, 3, 0, true},
		{window(0, 0), 3, 2, 0, false}, {window(0, longest), 0, longest, longest, true},
		{window(0, longest), 0, longest + 1, longest, true}, {window(0, longest), 1, longest, longest - 1, true},
		{window(0, longest), longest, longest, 0, true}, {window(0, longest), longest + 1, longest, 0, false},
		// The service and the until may be more than any time.
		{window(0, longest), longest + 1, longest + 5, 4, true}, {window(3, 9), 1 << 40, 1<<40 + 5, 5, true},
		{window(longest, longest), longest, 2 * longest, longest, true},
		{window(longest, longest), longest, 2*longest - 1, 0, false},

		{window(3, 9), -1, 20, 0, false}, {window(3, 9), -1, 8, 0, false}, {window(3, 9), -1, 2, 0, false},
		{window(0, 9), -1, -1, 0, false}, {window(0, 9), -1, greatest, 0, false}, {window(0, 9), -9, 0, 0, false},

		{window(9, 3), 0, 99, 0, false}, {window(6, 5), 0, 99, 0, false}, {window(6, 5), 0, 5, 0, false},
		{window(-1, 9), 0, 99, 0, false}, {window(-1, 9), 0, 5, 0, false}, {window(-1, -1), 0, 0, 0, false},
		{window(0, longest+1), 0, 5, 0, false}, {window(0, longest+1), 0, greatest, 0, false},
		{window(longest+1, longest+1), 0, greatest, 0, false}, {window(least, greatest), 0, 5, 0, false},
		{window(least, greatest), 0, greatest, 0, false}, {window(least, least), 0, 0, 0, false},
		{window(greatest, greatest), 0, greatest, 0, false}, {window(9, 3), -1, 99, 0, false},
	} {
		checkLast(t, c.w, c.service, c.until, c.want, c.ok)
	}
}

// P5.5: neither t + service nor until less the service may overflow.
func TestLastAtGreatest(t *testing.T) {
	for _, c := range []struct {
		w                    api.Window
		service, until, want int
		ok                   bool
	}{
		{window(0, 9), greatest, greatest, 0, true}, {window(1, 9), greatest, greatest, 0, false},
		{window(3, 9), greatest, greatest, 0, false}, {window(0, 9), greatest - 1, greatest, 1, true},
		{window(1, 9), greatest - 1, greatest, 1, true}, {window(2, 9), greatest - 1, greatest, 0, false},
		{window(3, 9), greatest - 8, greatest, 8, true}, {window(3, 9), greatest - 9, greatest, 9, true},
		{window(3, 9), greatest - 10, greatest, 9, true}, {window(0, 9), greatest, greatest - 1, 0, false},
		{window(0, 9), 0, greatest, 9, true}, {window(0, longest), 0, greatest, longest, true},
		{window(0, longest), 5, greatest, longest, true}, {window(0, longest), greatest - longest, greatest, longest, true},
		{window(0, longest), greatest - longest + 1, greatest, longest - 1, true},
		{window(longest, longest), greatest - longest, greatest, longest, true},
		{window(longest, longest), greatest - longest + 1, greatest, 0, false},
		{window(longest, longest), greatest, greatest, 0, false}, {window(0, longest), greatest, longest, 0, false},
		{window(0, 9), greatest, 0, 0, false}, {window(0, 9), greatest, -1, 0, false}, {window(0, 9), greatest, -2, 0, false},
		{window(0, 9), greatest, -3, 0, false}, {window(0, 9), greatest, least, 0, false},
		{window(3, 9), greatest, least, 0, false}, {window(0, 9), greatest, least + 10, 0, false},
		{window(0, 9), 0, least, 0, false}, {window(0, 9), 1, least, 0, false}, {window(0, 9), 5, least, 0, false},
		{window(0, longest), 5, least, 0, false}, {window(0, longest), 5, least + 4, 0, false},
		{window(0, longest), longest, least + 5, 0, false}, {window(0, 9), least, greatest, 0, false},
		{window(0, 9), least, least, 0, false}, {window(0, 9), least, 0, 0, false}, {window(0, 9), least, -1, 0, false},
		{window(0, 9), least, least + 5, 0, false}, {window(0, 9), least + 1, 9, 0, false},
	} {
		checkLast(t, c.w, c.service, c.until, c.want, c.ok)
	}
}

// P5.5, for every narrow window, service and until, in numbers that can't overflow
func TestLastOfNarrow(t *testing.T) {
	for _, base := range []int{0, longest - 6} {
		for _, w := range windows([]int{base - 1, base, base + 1, base + 3, base + 4, base + 6, base + 7}) {
			for service := -2; service <= 8; service++ {
				for until := base - 3; until <= base+17; until++ {
					want, wantOK := wantLast(w, service, until)
					checkLast(t, w, service, until, want, wantOK)
				}
			}
		}
	}
}

// P5.5 and P5.6, at every edge: the answer is in the window, and the next later time is not in it or is too late.
func TestLastAtEdges(t *testing.T) {
	for _, w := range windows(ends) {
		for _, service := range edges {
			for _, until := range edges {
				want, wantOK := wantLast(w, service, until)
				checkLast(t, w, service, until, want, wantOK)
				last, ok := span.Last(w, service, until)
				if !ok {
					continue
				}
				if !span.Has(w, last) || !fits(last, service, until) {
					t.Errorf("Last(%v, %d, %d) = %d, which is no such time", w, service, until, last)
				}
				if span.Has(w, last+1) && fits(last+1, service, until) {
					t.Errorf("Last(%v, %d, %d) = %d, which is not the latest", w, service, until, last)
				}
			}
		}
	}
	// The edges are windows too, most of them not right.
	for _, w := range windows(edges) {
		for _, until := range edges {
			for _, service := range []int{least, -1, 0, 1, longest, greatest - longest, greatest} {
				want, wantOK := wantLast(w, service, until)
				checkLast(t, w, service, until, want, wantOK)
			}
		}
	}
}

// P5.6: what the functions say of mixed windows agrees with the times tried one by one.
func TestMixedWindows(t *testing.T) {
	source := rand.New(rand.NewSource(6))
	for range 3000 {
		from := source.Intn(2000)
		w := window(from, from+source.Intn(50))
		arrive := from - 10 + source.Intn(70)
		want, wantOK := wantBegin(w, arrive)
		checkBegin(t, w, arrive, want, wantOK)
		service, until := source.Intn(100), from-10+source.Intn(200)
		want, wantOK = wantLast(w, service, until)
		checkLast(t, w, service, until, want, wantOK)
	}
}

// The chapter's example runs.
func TestExampleRuns(t *testing.T) {
	checkMeet(t, nil, window(0, api.MaxTime), true)
	checkMeet(t, []api.Window{{From: 3, To: 9}, {From: 5, To: 12}}, window(5, 9), true)
	checkMeet(t, []api.Window{{From: 3, To: 4}, {From: 5, To: 6}}, api.Window{}, false)
	checkMeet(t, []api.Window{{From: 5, To: 3}}, api.Window{}, false)
	checkBegin(t, window(3, 9), 1, 3, true)
	checkBegin(t, window(3, 9), 5, 5, true)
	checkBegin(t, window(3, 9), 10, 0, false)
	checkBegin(t, window(3, 9), -1<<63, 3, true)
	checkLast(t, window(3, 9), 4, 20, 9, true)
	checkLast(t, window(3, 9), 4, 10, 6, true)
	checkLast(t, window(3, 9), 4, 6, 0, false)
	checkLast(t, window(3, 9), -1, 20, 0, false)
	if got, ok := span.Meet(); got != window(0, api.MaxTime) || !ok {
		t.Errorf("Meet() = %v, %v", got, ok)
	}
}

// The chapter's ways: a site and a driver have the fields of their windows.
func TestEmbeddedWindows(t *testing.T) {
	site := api.Site{Place: 1, Window: window(3, 9), Service: 4}
	driver := api.Driver{Id: 1, Window: window(5, 30)}
	if got, ok := span.Meet(site.Window, driver.Window); got != window(driver.From, site.To) || !ok {
		t.Errorf("Meet of a site's and a driver's = %v, %v", got, ok)
	}
	checkBegin(t, site.Window, site.From-1, site.From, true)
	checkLast(t, site.Window, site.Service, driver.To, site.To, true)
}

// R2 and R5: the windows that are handed in stay, what lies behind them too, and that is not read. Meet alone is given a
// list; the others are given copies.
func TestWindowsStay(t *testing.T) {
	for _, whole := range [][]api.Window{
		{window(7, 7), window(3, 9), window(5, 12), window(4, 8), window(6, 5), window(-1, least)},
		{window(7, 7), window(3, 4), window(5, 6), window(4, 8), window(6, 5), window(-1, least)},
		{window(7, 7), window(3, 9), window(9, 3), window(4, 8), window(6, 5), window(-1, least)},
	} {
		before := slices.Clone(whole)
		for end := 1; end <= len(whole); end++ {
			l := whole[1:end]
			want, wantOK := wantMeet(l)
			checkMeet(t, l, want, wantOK)
			if !slices.Equal(whole, before) {
				t.Fatalf("the windows are now %v, not %v", whole, before)
			}
		}
	}
}

// R4: nothing is kept from call to call: the same calls have the same answers, whatever was asked in between.
func TestAnswersStay(t *testing.T) {
	for range 3 {
		checkMeet(t, []api.Window{window(3, 9), window(5, 12)}, window(5, 9), true)
		checkMeet(t, []api.Window{window(9, 3), window(-1, 0)}, api.Window{}, false)
		checkMeet(t, nil, window(0, longest), true)
		checkBegin(t, window(3, 9), 5, 5, true)
		checkBegin(t, window(9, 3), 5, 0, false)
		checkLast(t, window(3, 9), 4, 10, 6, true)
		checkLast(t, window(3, 9), -1, 10, 0, false)
	}
}
