package slack_test

import (
	"slices"
	"testing"

	"dray/api"
	"dray/route"
	"dray/slack"
)

// fitsThere is P8.3 by its words.
func fitsThere(w world, stops []api.Stop, o api.Order, i, j int) bool {
	_, f := route.Drive(w.m, w.d, w.orders, stops...)
	taken := slices.ContainsFunc(w.orders, func(other api.Order) bool { return other.Id == o.Id })
	if !f.Good() || taken || i < 0 || j < i || j > len(stops) {
		return false
	}
	_, f = route.Drive(w.m, w.d, append(slices.Clone(w.orders), o), put(stops, o.Id, i, j)...)
	return f.Good()
}

// fits calls Fits and holds what it answers against P8.3. Whether the driver is retired makes no difference.
func fits(t *testing.T, w world, stops []api.Stop, o api.Order, i, j int) bool {
	t.Helper()
	orders, handed := slices.Clone(w.orders), slices.Clone(stops)
	got, want := slack.Fits(w.m, w.d, w.orders, stops, o, i, j), fitsThere(w, stops, o, i, j)
	retired := w.d
	retired.Retired = !retired.Retired
	if again := slack.Fits(w.m, retired, w.orders, stops, o, i, j); got != want || again != want {
		t.Fatalf("Fits(%+v, %v, %+v, %d, %d) = %v, retired %v, not %v", w, stops, o, i, j, got, again, want)
	}
	if !slices.Equal(w.orders, orders) || !slices.Equal(stops, handed) {
		t.Fatalf("the arguments are now %v, %v, not %v, %v", w.orders, stops, orders, handed)
	}
	return got
}

func checkFits(t *testing.T, w world, stops []api.Stop, o api.Order, i, j int, want bool) {
	t.Helper()
	if got := fits(t, w, stops, o, i, j); got != want {
		t.Errorf("Fits(%+v, %v, %+v, %d, %d) = %v", w, stops, o, i, j, got)
	}
}

// checkNowhere holds that o fits at none of the places of the stops, nor beyond their ends.
func checkNowhere(t *testing.T, w world, stops []api.Stop, o api.Order) {
	t.Helper()
	for i := -1; i <= len(stops)+1; i++ {
		for j := -1; j <= len(stops)+1; j++ {
			checkFits(t, w, stops, o, i, j, false)
		}
	}
}

// P8.3: where everything fits, it is only the places that count.
func TestFitsPlaces(t *testing.T) {
	w := yard(t, 5)
	for _, stops := range [][]api.Stop{nil, {}, pairs(1), nested(2), pairs(5), {p(3), p(1), q(3), p(2), q(2), q(1)}} {
		n := len(stops)
		for i := -2; i <= n+2; i++ {
			for j := -2; j <= n+2; j++ {
				checkFits(t, w, stops, still(9), i, j, 0 <= i && i <= j && j <= n)
			}
			for _, at := range far() {
				checkFits(t, w, stops, still(9), i, at, false)
				checkFits(t, w, stops, still(9), at, i, false)
				checkFits(t, w, stops, still(9), at, at, false)
			}
		}
	}
}

// P8.3: an order whose Id is among the orders, with stops or without, the same one or another
func TestFitsTaken(t *testing.T) {
	w := yard(t, 5)
	for id := 1; id <= 5; id++ {
		o := still(id)
		for _, stops := range [][]api.Stop{nil, pairs(3), nested(2)} {
			checkNowhere(t, w, stops, o)
			o.Pick.Service = 1
			checkNowhere(t, w, stops, o)
		}
	}
	for _, id := range []int{6, 70, highest} {
		checkFits(t, w, pairs(3), still(id), 2, 5, true)
	}
	// An order that does not count among the orders, although its stops are there already.
	checkNowhere(t, w, []api.Stop{p(6), q(6)}, still(6))
	checkNowhere(t, w, []api.Stop{p(1), q(1), p(6)}, still(6))
}

// P8.3: an order that is not right
func TestFitsOrderWrong(t *testing.T) {
	w, none := example(t), example(t)
	w.d.Room, none.orders = 4, nil
	for _, turn := range wrongOrders() {
		o := second()
		turn(&o)
		checkNowhere(t, w, []api.Stop{p(1), q(1)}, o)
		checkNowhere(t, none, nil, o)
	}
	checkFits(t, w, []api.Stop{p(1), q(1)}, second(), 1, 2, true)
	checkFits(t, none, nil, second(), 0, 0, true)
	empty := world{}
	checkNowhere(t, empty, nil, api.Order{})
	checkNowhere(t, empty, nil, second())
}

// P8.3: stops with a Fault of their own, that no longer have one with the order between them: it makes the way shorter
func TestFitsNoCure(t *testing.T) {
	w := world{m: made(t, 3, 0, 50, 1, 50, 0, 50, 50, 1, 0), d: api.Driver{Id: 1, Room: 9, Window: window(0, 100)}}
	w.orders = []api.Order{{Id: 1, Size: 1, Pick: site(0, 0, 100, 0), Drop: site(1, 0, 50, 0)}}
	o := api.Order{Id: 2, Size: 1, Pick: site(2, 0, 100, 0), Drop: site(2, 0, 100, 0)}
	both := []api.Stop{p(1), q(1)}
	checkFits(t, w, both, o, 1, 1, true)
	w.orders[0].Drop.To = 49
	checkNowhere(t, w, both, o)
	with := w
	with.orders = append(slices.Clone(w.orders), o)
	checkLatest(t, with, []int{47, 48, 48, 49}, p(1), p(2), q(2), q(1))
}

// P8.3: with o there are at most MaxOrders orders.
func TestFitsMostOrders(t *testing.T) {
	for _, stops := range [][]api.Stop{nil, pairs(1), nested(3)} {
		n := len(stops)
		checkFits(t, yard(t, most-2), stops, still(50), 0, n, true)
		checkFits(t, yard(t, most-1), stops, still(50), 0, n, true)
		checkFits(t, yard(t, most-1), stops, still(50), n, n, true)
		checkNowhere(t, yard(t, most), stops, still(50))
		checkNowhere(t, yard(t, most+1), stops, still(50))
	}
}

// P8.3: with o there are at most MaxStops stops.
func TestFitsMostStops(t *testing.T) {
	w := yard(t, most-1)
	for _, stops := range [][]api.Stop{pairs(most - 1), nested(most - 1)} {
		for _, i := range []int{0, 1, most - 1, crowd - 3, crowd - 2, crowd - 1, crowd} {
			for _, j := range []int{0, 1, most - 1, crowd - 3, crowd - 2, crowd - 1, crowd} {
				checkFits(t, w, stops, still(50), i, j, i <= j && j <= crowd-2)
			}
		}
	}
	full := yard(t, most)
	for _, stops := range [][]api.Stop{pairs(most), nested(most)} {
		for _, n := range []int{crowd - 1, crowd} {
			checkFits(t, full, stops[:n], still(50), 0, 0, false)
			checkFits(t, full, stops[:n], still(50), 0, n, false)
			checkFits(t, full, stops[:n], still(50), n, n, false)
			checkFits(t, full, stops[:n], still(most), n, n, false)
		}
	}
}

// P8.3: a load that is just the Room, and greater by one, where o is loaded and nowhere else
func TestFitsLoad(t *testing.T) {
	w := yard(t, 2)
	w.orders[0].Size, w.orders[1].Size = 5, 3
	stops := []api.Stop{p(1), p(2), q(1), q(2)}
	// The loads behind the stops are 5, 8, 3, 0; these are the greatest ones that o is added to.
	for _, c := range []struct{ i, j, most int }{
		{0, 0, 0}, {0, 1, 5}, {0, 2, 8}, {0, 3, 8}, {0, 4, 8}, {1, 1, 5}, {1, 2, 8}, {1, 3, 8}, {1, 4, 8},
		{2, 2, 8}, {2, 3, 8}, {2, 4, 8}, {3, 3, 3}, {3, 4, 3}, {4, 4, 0},
	} {
		for size := 1; size <= 12; size++ {
			o := still(9)
			o.Size = size
			for room := 8; room <= 20; room++ {
				w.d.Room = room
				checkFits(t, w, stops, o, c.i, c.j, c.most+size <= room)
			}
		}
	}
	// At the greatest sizes.
	w.orders[0].Size, w.d.Room = biggest, biggest
	o := still(9)
	o.Size = biggest
	checkFits(t, w, []api.Stop{p(1), q(1)}, o, 0, 0, true)
	checkFits(t, w, []api.Stop{p(1), q(1)}, o, 2, 2, true)
	for _, at := range [][2]int{{0, 1}, {0, 2}, {1, 1}, {1, 2}} {
		o.Size = 1
		checkFits(t, w, []api.Stop{p(1), q(1)}, o, at[0], at[1], false)
	}
}

// P8.3: an order that makes a later stop just in time, and late by one, for its own Window or for the driver's
func TestFitsJustInTime(t *testing.T) {
	both := []api.Stop{p(1), q(1)}
	for _, c := range []struct {
		i, j int
		// The services of r, and whether it fits.
		pick, drop int
		want       bool
	}{
		// Between the two, r is picked up at 9 and delivered at 9 + pick + 5; then the delivery of o has until 20.
		{1, 1, 1, 5, true}, {1, 1, 1, 6, false}, {1, 1, 6, 0, true}, {1, 1, 7, 0, false}, {1, 1, 0, 6, true}, {1, 1, 0, 7, false},
		{1, 2, 6, 2, true}, {1, 2, 7, 2, false},
		// Ahead of both, its pickup is at 8, and the one of o has until 9.
		{0, 2, 1, 0, true}, {0, 2, 2, 0, false}, {0, 1, 1, 5, true}, {0, 1, 1, 6, false},
		// Behind both, it is picked up at 23 and delivered at 28 + pick; the driver has until 30.
		{2, 2, 1, 1, true}, {2, 2, 2, 0, true}, {2, 2, 0, 2, true}, {2, 2, 1, 2, false}, {2, 2, 3, 0, false}, {2, 2, 0, 3, false},
	} {
		w, o := example(t), second()
		w.d.Room, o.Pick.Service, o.Drop.Service = 4, c.pick, c.drop
		checkFits(t, w, both, o, c.i, c.j, c.want)
	}
	// The driver's Window is the bound of a stop behind: with r between them, the delivery of o ends at 19 + more.
	for more := range 5 {
		w, o := example(t), second()
		w.d.Room, o.Drop.Service = 4, 2+more
		for to := 17; to <= 30; to++ {
			w.d.To = to
			checkFits(t, w, both, o, 1, 1, 19+more <= to && 17+more <= 20)
		}
	}
}

// P8.3: the Windows of the order itself
func TestFitsOwnWindows(t *testing.T) {
	both := []api.Stop{p(1), q(1)}
	for _, c := range []struct {
		pick, drop api.Window
		want       bool
	}{
		// Between the two, r is picked up at 9 and delivered at 15, or 6 behind the time at which it is picked up.
		{window(9, 9), window(15, 15), true}, {window(0, 8), window(0, 100), false}, {window(0, 100), window(0, 14), false},
		{window(10, 10), window(16, 16), true}, {window(10, 10), window(15, 15), false}, {window(12, 100), window(0, 100), true},
		{window(13, 100), window(0, 100), false}, {window(0, 100), window(18, 100), true}, {window(0, 100), window(19, 100), false},
	} {
		w, o := example(t), second()
		w.d.Room, o.Pick.Window, o.Drop.Window = 4, c.pick, c.drop
		checkFits(t, w, both, o, 1, 1, c.want)
	}
}

// R2 and R5: what Fits is handed stays, with the room behind it, and that is not read; nothing is kept.
func TestFitsKeepsNothing(t *testing.T) {
	w := yard(t, 2)
	wrong := api.Order{Id: 1, Size: greatest}
	orders := []api.Order{wrong, w.orders[0], w.orders[1], w.orders[1], wrong}
	stops := []api.Stop{p(9), p(1), p(2), q(1), q(2), p(1), p(9)}
	ordersBefore, stopsBefore := slices.Clone(orders), slices.Clone(stops)
	for end := 1; end <= len(orders); end++ {
		for last := 1; last <= len(stops); last++ {
			for i := range last {
				got := slack.Fits(w.m, w.d, orders[1:end], stops[1:last], still(9), i, last-1)
				if want := end <= 3 && last == 1 || end == 3 && last == 5; got != want {
					t.Errorf("Fits of %d orders and %d stops = %v", end-1, last-1, got)
				}
				if !slices.Equal(orders, ordersBefore) || !slices.Equal(stops, stopsBefore) {
					t.Fatalf("the arguments are now %v, %v, not %v, %v", orders, stops, ordersBefore, stopsBefore)
				}
			}
		}
	}
	if times := w.m.Times(); !slices.Equal(times, []int{0}) {
		t.Errorf("the times are now %v", times)
	}
}
