package planner_test

import (
	"slices"
	"testing"

	"dray/api"
)

// climb holds what Place of o by the lane's driver is to lead to with each budget: the stops of the last rung that the budget
// is enough for, rungs[n] being what n+1 steps lead to.
func climb(t *testing.T, w world, o api.Order, rungs ...[]api.Stop) {
	t.Helper()
	check(t, w, place(o, 0), api.ErrRoute)
	orders := slices.SortedFunc(slices.Values(append(slices.Clone(w.b.Orders), o)), func(a, b api.Order) int { return a.Id - b.Id })
	for _, budget := range []int{1, 2, 3, 4, 5, 6, 7, 8, 100, budgets - 1, budgets} {
		stops := rungs[min(budget, len(rungs))-1]
		if stops == nil {
			check(t, w, place(o, budget), api.ErrRoute)
			continue
		}
		route := served(4, w.b.Plan[0].Served, stops...)
		checkBook(t, w, place(o, budget), book(w.b.Drivers, orders, route), 0)
	}
	for _, budget := range wrongBudgets() {
		check(t, w, place(o, budget), api.ErrArg)
	}
}

// P14.3: Place on the lane with each budget. The positions cost 60, 40, 30, 20, 10 and 30 more.
func TestPlaceClimb(t *testing.T) {
	climb(t, lane(t), errand(1, 1, 3),
		[]api.Stop{p(1), q(1), p(20), q(20)}, []api.Stop{p(1), p(20), q(1), q(20)}, []api.Stop{p(1), p(20), q(20), q(1)},
		[]api.Stop{p(20), p(1), q(1), q(20)}, []api.Stop{p(20), p(1), q(20), q(1)},
	)
	// With 20 picked up, the first three are not there any more; with it delivered, only the last one is.
	w := lane(t)
	w.b.Plan[0].Served = 1
	climb(t, w, errand(1, 1, 3), []api.Stop{p(20), p(1), q(1), q(20)}, []api.Stop{p(20), p(1), q(20), q(1)})
	w.b.Plan[0].Served = 2
	climb(t, w, errand(1, 1, 3), []api.Stop{p(20), q(20), p(1), q(1)})
}

// P14.3: an order that fits at the last position alone: as many steps as that takes, and one fewer
func TestPlaceLast(t *testing.T) {
	w := lane(t)
	w.b.Orders[0].Drop.To = 20
	only := []api.Stop{p(20), q(20), p(1), q(1)}
	climb(t, w, errand(1, 3, 3), nil, nil, nil, nil, nil, only)
	w.b.Plan[0].Served = 1
	climb(t, w, errand(1, 3, 3), nil, nil, only)
	w.b.Plan[0].Served = 2
	climb(t, w, errand(1, 3, 3), only)
}

// P14.3: an order for which there is no place: too big, too late for it, for the driver, or on the way; nobody is there.
func TestPlaceNowhere(t *testing.T) {
	w := lane(t)
	big, late, long := errand(1, 1, 3), errand(1, 3, 1), errand(1, 1, 3)
	big.Size, late.Drop.To, long.Drop.Service = 10, 49, longest
	for _, o := range []api.Order{big, late, long} {
		climb(t, w, o, nil)
	}
	late.Drop.To = 50
	first := []api.Stop{p(1), q(1), p(20), q(20)}
	climb(t, w, late, first, first, first, []api.Stop{p(20), p(1), q(1), q(20)}, []api.Stop{p(20), p(1), q(20), q(1)})
	w.b.Drivers[0].Retired = true
	climb(t, w, errand(1, 1, 3), nil)
	for _, budget := range []int{0, 1, budgets} {
		check(t, world{m: w.m}, place(errand(1, 1, 3), budget), api.ErrRoute)
	}
}

// P14.3: an order that may be too much beside the other one, or wait for it
func TestPlaceBeside(t *testing.T) {
	w := lane(t)
	o := errand(1, 1, 3)
	o.Size = 8
	climb(t, w, o,
		[]api.Stop{p(1), q(1), p(20), q(20)}, []api.Stop{p(1), p(20), q(1), q(20)}, []api.Stop{p(1), p(20), q(20), q(1)},
		[]api.Stop{p(20), p(1), q(1), q(20)}, []api.Stop{p(20), p(1), q(20), q(1)},
	)
	o.Size = 9
	first, last := []api.Stop{p(1), q(1), p(20), q(20)}, []api.Stop{p(20), q(20), p(1), q(1)}
	climb(t, w, o, first, first, first, first, first, last)
}

// P14.3: each Fault of deal.Order, that which comes first being told
func TestPlaceFaults(t *testing.T) {
	for _, w := range []world{lane(t), town(t), yards(t, 1, most), {m: made(t, 5, make([]int, 25)...)}} {
		n := w.m.Places()
		o := errand(1, 0, 0)
		for _, id := range beyond() {
			for _, size := range []int{0, 1, greatest} {
				o.Id, o.Size = id, size
				check(t, w, place(o, 9), api.ErrArg)
			}
		}
		for _, id := range []int{1, 20, highest} {
			o = errand(id, 0, 0)
			for _, size := range []int{0, -1, biggest + 1, 1<<32 + 3, least, greatest} {
				o.Size = size
				check(t, w, place(o, 9), api.ErrLoad)
			}
			for _, at := range []int{-1, n, places, 1 << 32, least, greatest} {
				o = errand(id, at, 0)
				check(t, w, place(o, 9), api.ErrPlace)
				o = errand(id, 0, at)
				check(t, w, place(o, 9), api.ErrPlace)
			}
			for _, wrong := range []api.Window{window(-1, 9), window(5, 4), window(0, longest+1), window(least, greatest), window(greatest, least)} {
				o = errand(id, 0, 0)
				o.Pick.Window = wrong
				check(t, w, place(o, 9), api.ErrWindow)
				o = errand(id, 0, 0)
				o.Drop.Window = wrong
				check(t, w, place(o, 9), api.ErrWindow)
			}
			for _, service := range []int{-1, longest + 1, least, greatest} {
				o = errand(id, 0, 0)
				o.Pick.Service = service
				check(t, w, place(o, 9), api.ErrOver)
				o = errand(id, 0, 0)
				o.Drop.Service = service
				check(t, w, place(o, 9), api.ErrOver)
			}
		}
	}
}

// P14.3: an Id that is taken, and each that is not: ahead of all others, behind all, and between two
func TestPlaceIds(t *testing.T) {
	w := town(t)
	ids := []int{2, 3, 4, 6, 8, 9}
	for _, id := range []int{1, 2, 3, 4, 5, 6, 7, 8, 9, 10, highest - 1, highest} {
		o := errand(id, 3, 3)
		if slices.Contains(ids, id) {
			check(t, w, place(o, 1000), api.ErrTaken)
			check(t, w, place(o, 0), api.ErrTaken)
			continue
		}
		// 10 is on the way to 3, so it costs nothing at the first position there is. 20 is at 2 by then, 30 too, and 40 is at
		// home at 3.
		at, _ := slices.BinarySearch(ids, id)
		want := copied(w.b)
		want.Orders = slices.Insert(want.Orders, at, o)
		want.Plan[0].Stops = []api.Stop{p(2), p(id), q(id), p(6), q(2), q(6)}
		check(t, w, place(o, 0), api.ErrRoute)
		checkBook(t, w, place(o, 1), want, 0)
		checkBook(t, w, place(o, budgets), want, 0)
		for k := range 3 {
			w.b.Drivers[k].Retired = true
		}
		want = copied(w.b)
		want.Orders = slices.Insert(want.Orders, at, o)
		want.Plan[3].Stops = []api.Stop{p(id), q(id), p(3), q(3), p(9), q(9)}
		check(t, w, place(o, 0), api.ErrRoute)
		checkBook(t, w, place(o, 1), want, 0)
		checkBook(t, w, place(o, budgets), want, 0)
		w = town(t)
	}
}

// P14.3: MaxOrders orders and one fewer
func TestPlaceFull(t *testing.T) {
	w := yards(t, 2, most-1)
	// Ahead of all, between two, and behind all; the first driver has just room left for the two stops.
	for _, id := range []int{1, 3, 41, 2*most - 1, 2 * most, highest} {
		a := asked(t, w, place(errand(id, 0, 0), budgets))
		if a.why != api.OK || len(a.b.Orders) != most || !slices.IsSortedFunc(a.b.Orders, func(a, b api.Order) int { return a.Id - b.Id }) {
			t.Fatalf("Place of %d beside %d orders = %+v", id, most-1, a)
		}
		full := world{w.m, a.b}
		for _, other := range []int{5, highest - 1} {
			check(t, full, place(errand(other, 0, 0), budgets), api.ErrFull)
			check(t, full, place(errand(other, 0, 0), 0), api.ErrFull)
		}
		check(t, full, place(errand(id, 0, 0), 9), api.ErrTaken)
		check(t, full, place(errand(id, 0, 0), budgets+1), api.ErrArg)
		// When one is dropped, there is room again.
		full = checkBook(t, full, drop(30), takenOut(full.b, 30), 0)
		if a := asked(t, full, place(errand(5, 0, 0), 1)); a.why != api.OK || len(a.b.Orders) != most {
			t.Fatalf("Place of one more than %d orders = %+v", most-1, a)
		}
	}
}

// P14.3: it is placed with the driver whose route becomes less longer, and in a tie with the one of the smaller Id.
func TestPlaceWhere(t *testing.T) {
	w := world{line(t, 4), book([]api.Driver{idler(3, 3), idler(5, 1), idler(8, 1), idler(9, 0)}, nil, drive(3), drive(5), drive(8), drive(9))}
	for from, k := range []int{3, 1, 1, 0} {
		o := errand(7, from, 2)
		want := copied(w.b)
		want.Orders = []api.Order{o}
		if from == 2 {
			// 3 and 5 are as near to it as each other.
			k = 0
		}
		want.Plan[k].Stops = []api.Stop{p(7), q(7)}
		checkBook(t, w, place(o, 4), want, 0)
		checkBook(t, w, place(o, budgets), want, 0)
		// With fewer steps, it is the first ones that are asked.
		want = copied(w.b)
		want.Orders = []api.Order{o}
		want.Plan[0].Stops = []api.Stop{p(7), q(7)}
		checkBook(t, w, place(o, 1), want, 0)
	}
}

// P14.3: Drop of the first, the last, one between and the only order, and of those that no one has
func TestDrop(t *testing.T) {
	w := town(t)
	w.b.Plan[0].Served, w.b.Plan[1].Served = 0, 0
	for i, o := range w.b.Orders {
		checkBook(t, w, drop(o.Id), takenOut(w.b, o.Id), 0)
		// Till none is left
		left := w
		for j := range w.b.Orders {
			id := w.b.Orders[(i+j)%len(w.b.Orders)].Id
			left = checkBook(t, left, drop(id), takenOut(left.b, id), 0)
			check(t, left, drop(id), api.ErrNone)
		}
		if len(left.b.Orders) > 0 || len(left.b.Plan) != 4 || len(left.b.Drivers) != 4 {
			t.Fatalf("without all orders, the town is %+v", left.b)
		}
	}
	only := lane(t)
	checkBook(t, only, drop(20), book(only.b.Drivers, nil, drive(4)), 0)
	for _, id := range append(beyond(), 1, 5, 7, 10, 30, 40, highest) {
		check(t, w, drop(id), api.ErrNone)
		check(t, only, drop(id), api.ErrNone)
		check(t, world{m: w.m}, drop(id), api.ErrNone)
	}
}

// P14.3: Drop of orders of which the pickup is done, both stops are, or none is though others on the route are
func TestDropBegun(t *testing.T) {
	w := town(t)
	for _, id := range []int{2, 4, 8} {
		check(t, w, drop(id), api.ErrServed)
	}
	for _, id := range []int{6, 3, 9} {
		checkBook(t, w, drop(id), takenOut(w.b, id), 0)
	}
	stops := w.b.Plan[0].Stops
	for n := range len(stops) + 1 {
		w.b.Plan[0].Served = n
		for _, id := range []int{2, 6} {
			if slices.Contains(stops[:n], p(id)) {
				check(t, w, drop(id), api.ErrServed)
			} else {
				checkBook(t, w, drop(id), takenOut(w.b, id), 0)
			}
		}
	}
	// A driver that is retired keeps what it has begun.
	w = town(t)
	w.b.Drivers[0].Retired = true
	check(t, w, drop(2), api.ErrServed)
	checkBook(t, w, drop(6), takenOut(w.b, 6), 0)
}

// P14.3: Drop through Gate, on a map that is not Even: what comes behind is then too late.
func TestDropGate(t *testing.T) {
	w := short(t)
	check(t, w, drop(5), api.ErrGate)
	check(t, w, drop(7), api.ErrServed)
	w.b.Plan[0].Served = 0
	check(t, w, drop(5), api.ErrGate)
	checkBook(t, w, drop(7), takenOut(w.b, 7), 0)
	w.b.Plan[0].Served = 2
	check(t, w, drop(5), api.ErrServed)
	// With more time, and on a map that is Even, it is not so.
	w = short(t)
	w.b.Orders[1].Drop.To = 9
	checkBook(t, w, drop(5), takenOut(w.b, 5), 0)
	w.b.Orders[1].Drop.To = 8
	check(t, w, drop(5), api.ErrGate)
	w = short(t)
	w.m = w.m.Closed()
	checkBook(t, w, drop(5), takenOut(w.b, 5), 0)
}

// P14.5: Place followed by Drop of the same order restores the book.
func TestPlaceDrop(t *testing.T) {
	for _, w := range worlds(t) {
		for _, id := range []int{1, 5, 7, 41, 999, highest} {
			for _, budget := range []int{1, 2, 9, budgets} {
				a := asked(t, w, place(errand(id, 0, w.m.Places()-1), budget))
				if a.why == api.OK {
					checkBook(t, world{w.m, a.b}, drop(id), w.b, 0)
				}
			}
		}
	}
}
