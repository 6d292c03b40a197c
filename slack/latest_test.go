package slack_test

import (
	"slices"
	"testing"

	"dray/api"
	"dray/slack"
)

// turnedLatest is a change of the chapter's world, and the latest times of p(1), q(1) in it; none if they can't be made.
type turnedLatest struct {
	turn change
	want []int
}

func checkTurned(t *testing.T, cases []turnedLatest) {
	t.Helper()
	for _, c := range cases {
		w := example(t).turned(c.turn)
		if c.want == nil {
			checkNone(t, w, p(1), q(1))
			continue
		}
		checkLatest(t, w, c.want, p(1), q(1))
	}
}

// P8.1: the end of the driver's Window is what bounds the delivery, then the pickup too; Drive begins them at 8 and 14.
func TestDriverIsTheBound(t *testing.T) {
	until := func(to int) change { return func(w *world) { w.d.To = to } }
	checkTurned(t, []turnedLatest{
		{until(longest), []int{9, 20}}, {until(23), []int{9, 20}}, {until(22), []int{9, 20}}, {until(21), []int{9, 19}},
		{until(18), []int{9, 16}}, {until(17), []int{9, 15}},
		// Both begin at their latest times already.
		{until(16), []int{8, 14}}, {until(15), nil},
	})
}

// P8.1: the next stop's Window is what bounds the pickup.
func TestNextIsTheBound(t *testing.T) {
	drop := func(to int) change { return func(w *world) { w.orders[0].Drop.To = to } }
	pick := func(to int) change { return func(w *world) { w.orders[0].Pick.To = to } }
	both := func(p, d int) change { return func(w *world) { pick(p)(w); drop(d)(w) } }
	checkTurned(t, []turnedLatest{
		{drop(16), []int{9, 16}}, {drop(15), []int{9, 15}}, {drop(14), []int{8, 14}}, {drop(13), nil},
		{pick(13), []int{13, 20}}, {pick(14), []int{14, 20}}, {pick(15), []int{14, 20}}, {pick(longest), []int{14, 20}},
		{both(30, 28), []int{22, 28}}, {both(30, 29), []int{22, 28}}, {both(longest, longest), []int{22, 28}},
		{both(30, 18), []int{12, 18}}, {both(8, 18), []int{8, 18}}, {both(8, 28), []int{8, 28}}, {both(7, 28), nil},
	})
}

// P8.1: a longer service leaves less time, that at the delivery for both stops.
func TestService(t *testing.T) {
	pick := func(n int) change { return func(w *world) { w.orders[0].Pick.Service = n } }
	drop := func(n int) change { return func(w *world) { w.orders[0].Drop.Service = n } }
	checkTurned(t, []turnedLatest{
		{pick(0), []int{9, 20}}, {pick(6), []int{9, 20}}, {pick(7), []int{8, 20}}, {pick(8), nil}, {pick(longest), nil},
		{drop(0), []int{9, 20}}, {drop(10), []int{9, 20}}, {drop(11), []int{9, 19}}, {drop(15), []int{9, 15}},
		{drop(16), []int{8, 14}}, {drop(17), nil}, {drop(longest), nil},
	})
}

// P8.1: who waits ahead of a Window may begin the stop ahead later, and a stop that waits has its own latest time.
func TestWaiting(t *testing.T) {
	windows := func(p, d api.Window) change {
		return func(w *world) { w.orders[0].Pick.Window, w.orders[0].Drop.Window = p, d }
	}
	checkTurned(t, []turnedLatest{
		{windows(window(2, 9), window(18, 20)), []int{9, 20}}, {windows(window(2, 20), window(18, 18)), []int{12, 18}},
		{windows(window(9, 9), window(28, 28)), []int{9, 28}}, {windows(window(9, 22), window(28, 28)), []int{22, 28}},
		{windows(window(9, 23), window(28, 28)), []int{22, 28}}, {windows(window(22, 23), window(28, longest)), []int{22, 28}},
		{windows(window(23, 23), window(28, longest)), nil}, {windows(window(22, 23), window(29, longest)), nil},
	})
}

// P8.1: neither the driver's Home nor the beginning of its Window has an influence, if all can still be made.
func TestBeginningsDoNotCount(t *testing.T) {
	checkTurned(t, []turnedLatest{
		{func(w *world) { w.d.From = 0 }, []int{9, 20}}, {func(w *world) { w.d.From = 2 }, []int{9, 20}},
		{func(w *world) { w.d.From = 3 }, nil},
		{func(w *world) { w.d.Home = 0 }, []int{9, 20}}, {func(w *world) { w.d.Home, w.d.From = 0, 9 }, []int{9, 20}},
		{func(w *world) { w.d.Home, w.d.From = 0, 10 }, nil},
	})
}

// P8.1: no stops
func TestNoStops(t *testing.T) {
	for _, n := range []int{0, 1, 2, most} {
		w := yard(t, n)
		for _, stops := range [][]api.Stop{nil, {}, make([]api.Stop, 0, 5)} {
			checkLatest(t, w, nil, stops...)
		}
		if l, ok := slack.Latest(w.m, w.d, w.orders); len(l) != 0 || !ok {
			t.Errorf("Latest without stops = %v, %v", l, ok)
		}
	}
}

// P8.1: as many stops as there may be, each bounded by the one behind it
func TestMostStops(t *testing.T) {
	w := yard(t, most)
	for _, stops := range [][]api.Stop{pairs(most), nested(most)} {
		checkLatest(t, w, slices.Repeat([]int{100}, crowd), stops...)
	}
	for i := range w.orders {
		w.orders[i].Pick.Service, w.orders[i].Drop.Service = 1, 1
	}
	var want []int
	for i := range crowd {
		want = append(want, 20+i)
	}
	checkLatest(t, w, want, pairs(most)...)
	checkLatest(t, w, want, nested(most)...)
	w.d.To = 90
	for i := range want {
		want[i] -= 10
	}
	checkLatest(t, w, want, nested(most)...)
	w.d.To = 89
	checkNone(t, w, nested(most)...)
}

// P8.1: several orders, picked up and delivered in turns; the ways are subtracted in the direction they are driven in.
func TestSeveralOrders(t *testing.T) {
	w := world{
		m: made(t, 3, 0, 4, 9, 6, 0, 2, 3, 8, 0),
		d: api.Driver{Id: 7, Room: 10, Home: 2, Window: window(5, 60)},
		orders: []api.Order{
			{Id: 30, Size: 2, Pick: site(0, 0, 20, 1), Drop: site(2, 30, 40, 2)},
			{Id: 10, Size: 7, Pick: site(1, 15, 25, 3), Drop: site(0, 10, 50, 0)},
			{Id: 20, Size: 1, Pick: site(2, 5, 5, 0), Drop: site(2, 0, 60, 10)},
		},
	}
	stops := []api.Stop{p(20), p(30), p(10), q(30), q(10), q(20)}
	// Bounds: the Window, the Window, the Window, the next stop, the next stop, the driver's Window.
	checkLatest(t, w, []int{5, 20, 25, 36, 41, 50}, stops...)
	w.d.To = 54
	checkLatest(t, w, []int{5, 20, 25, 30, 35, 44}, stops...)
	w.d.To = 53
	checkNone(t, w, stops...)
	w.d.To = 60
	w.orders[2].Drop.Service = 0
	checkLatest(t, w, []int{5, 20, 25, 40, 50, 60}, stops...)
	checkLatest(t, w, []int{25, 50}, p(10), q(10))
	checkLatest(t, w, []int{20, 40}, p(30), q(30))
	w.orders[2].Pick.To, w.orders[0].Pick.To = longest, longest
	checkLatest(t, w, []int{17, 20, 25, 40, 50, 60}, stops...)
}

// P8.1: which way is subtracted, on a map whose times tell them apart; it is the direct one, even where that through a
// third place is shorter.
func TestWays(t *testing.T) {
	m := made(t, 3, 0, 1, 10, 100, 0, 1000, 10000, 100000, 0)
	for from := range 3 {
		for to := range 3 {
			way, _ := m.Time(from, to)
			w := world{m: m, d: api.Driver{Id: 1, Room: 1, Home: from, Window: window(0, longest)}}
			w.orders = []api.Order{{Id: 1, Size: 1, Pick: site(from, 0, longest, 0), Drop: site(to, 0, longest, 0)}}
			checkLatest(t, w, []int{longest - way, longest}, p(1), q(1))
			w.orders[0].Drop.To, w.orders[0].Pick.Service = 500000, 3
			checkLatest(t, w, []int{500000 - way - 3, 500000}, p(1), q(1))
		}
	}
}

// P8.1: at the least and the greatest times
func TestLongest(t *testing.T) {
	m := made(t, 2, 0, longest, longest, 0)
	at := func(place, service int) api.Site { return site(place, 0, longest, service) }
	for _, c := range []struct {
		w          api.Window
		pick, drop api.Site
		want       []int
	}{
		{window(0, longest), at(0, 0), at(0, 0), []int{longest, longest}},
		{window(0, longest), at(0, 0), at(1, 0), []int{0, longest}},
		{window(0, longest), at(1, 0), at(1, 0), []int{longest, longest}},
		{window(0, longest), at(0, longest), at(0, 0), []int{0, longest}},
		{window(0, longest), at(0, 0), at(0, longest), []int{0, 0}},
		{window(0, longest), at(0, 1), at(0, longest-1), []int{0, 1}},
		{window(0, longest), at(0, 0), at(0, longest-1), []int{1, 1}},
		{window(0, 0), at(0, 0), at(0, 0), []int{0, 0}},
		{window(0, 1), at(0, 0), at(0, 0), []int{1, 1}},
		{window(longest, longest), at(0, 0), at(0, 0), []int{longest, longest}},
		{window(0, longest), site(0, 0, 0, 0), at(0, 0), []int{0, longest}},
		{window(0, longest), at(0, 0), site(0, 0, 0, 0), []int{0, 0}},
		{window(0, longest), at(0, 0), site(0, longest, longest, 0), []int{longest, longest}},
		{window(0, longest), at(0, longest), at(1, longest), nil},
		{window(0, longest), at(0, 1), at(1, 0), nil},
	} {
		w := world{m: m, d: api.Driver{Id: highest, Room: biggest, Window: c.w}}
		w.orders = []api.Order{{Id: highest, Size: biggest, Pick: c.pick, Drop: c.drop}}
		if c.want == nil {
			checkNone(t, w, p(highest), q(highest))
			continue
		}
		checkLatest(t, w, c.want, p(highest), q(highest))
	}
}

// R2 and R5: what Latest is handed stays, with the room behind it, and that is not read; what it answers is new.
func TestLatestKeepsNothing(t *testing.T) {
	w := yard(t, 2)
	wrong := api.Order{Id: 1, Size: greatest}
	orders := []api.Order{wrong, w.orders[0], w.orders[1], w.orders[1], wrong}
	stops := []api.Stop{p(9), p(1), p(2), q(1), q(2), p(1), p(9)}
	ordersBefore, stopsBefore := slices.Clone(orders), slices.Clone(stops)
	first, _ := slack.Latest(w.m, w.d, orders[1:3], stops[1:5]...)
	for end := 1; end <= len(orders); end++ {
		for last := 1; last <= len(stops); last++ {
			l, ok := slack.Latest(w.m, w.d, orders[1:end], stops[1:last]...)
			if good := end <= 3 && last == 1 || end == 3 && last == 5; ok != good {
				t.Errorf("Latest of %d orders and %d stops = %v, %v", end-1, last-1, l, ok)
			}
			l = l[:cap(l)]
			for i := range l {
				l[i] = -7
			}
			if !slices.Equal(orders, ordersBefore) || !slices.Equal(stops, stopsBefore) {
				t.Fatalf("the arguments are now %v, %v, not %v, %v", orders, stops, ordersBefore, stopsBefore)
			}
		}
	}
	clear(orders)
	clear(stops)
	if !slices.Equal(first, []int{100, 100, 100, 100}) {
		t.Errorf("the latest times are now %v", first)
	}
	if times := w.m.Times(); !slices.Equal(times, []int{0}) {
		t.Errorf("the times are now %v", times)
	}
}
