package planner_test

import (
	"slices"
	"testing"

	"dray/api"
	"dray/planner"
)

// P14.3: Hire of an Id that is taken, and of ones that are not: ahead of all others, behind all, and between two
func TestHireIds(t *testing.T) {
	w := town(t)
	ids := []int{10, 20, 30, 40}
	for _, id := range []int{1, 9, 10, 11, 15, 19, 20, 21, 29, 30, 31, 39, 40, 41, highest - 1, highest} {
		d := api.Driver{Id: id, Room: 1, Home: 4, Window: window(7, 7)}
		if slices.Contains(ids, id) {
			check(t, w, hire(d), api.ErrTaken)
			check(t, w, hire(*driverThere(w.b, id)), api.ErrTaken)
			continue
		}
		at, _ := slices.BinarySearch(ids, id)
		want := copied(w.b)
		want.Drivers, want.Plan = slices.Insert(want.Drivers, at, d), slices.Insert(want.Plan, at, drive(id))
		next := checkBook(t, w, hire(d), want, 0)
		check(t, next, hire(d), api.ErrTaken)
	}
}

// P14.3: each Fault of deal.Driver, that which comes first being told, ahead of all else
func TestHireFaults(t *testing.T) {
	for _, w := range []world{lane(t), town(t), yards(t, fleet, 3), {m: made(t, 5, make([]int, 25)...)}} {
		n := w.m.Places()
		for _, gone := range []bool{false, true} {
			for _, id := range beyond() {
				for _, room := range []int{0, 1, greatest} {
					check(t, w, hire(api.Driver{Id: id, Room: room, Retired: gone}), api.ErrArg)
				}
			}
			for _, id := range []int{1, 4, 10, highest} {
				for _, room := range []int{0, -1, biggest + 1, 1<<32 + 3, least, greatest} {
					check(t, w, hire(api.Driver{Id: id, Room: room, Retired: gone}), api.ErrLoad)
				}
				for _, home := range []int{-1, n, places, 1 << 32, least, greatest} {
					check(t, w, hire(api.Driver{Id: id, Room: biggest, Home: home, Retired: gone}), api.ErrPlace)
				}
				for _, wrong := range []api.Window{window(-1, 9), window(5, 4), window(0, longest+1), window(least, greatest), window(greatest, least)} {
					check(t, w, hire(api.Driver{Id: id, Room: 1, Window: wrong, Retired: gone}), api.ErrWindow)
				}
			}
		}
	}
}

// P14.3: a driver that is retired can't be hired, whether or not its Id is taken; an Id is taken also by one that is retired.
func TestHireRetired(t *testing.T) {
	for _, w := range worlds(t) {
		for _, id := range []int{1, 4, 10, 55, highest} {
			check(t, w, hire(api.Driver{Id: id, Room: 1, Retired: true}), api.ErrGone)
		}
		for _, d := range w.b.Drivers {
			d.Retired = false
			check(t, w, hire(d), api.ErrTaken)
			d.Retired = true
			check(t, w, hire(d), api.ErrGone)
		}
	}
}

// P14.3: MaxDrivers drivers and one fewer; one that is retired is still one of them.
func TestHireFull(t *testing.T) {
	for _, id := range []int{1, 15, 65, 71, highest} {
		w := yards(t, fleet-1, 4)
		w.b.Drivers[3].Retired = true
		d := idler(id, 0)
		a := asked(t, w, hire(d))
		if a.why != api.OK || len(a.b.Drivers) != fleet || len(a.b.Plan) != fleet {
			t.Fatalf("Hire of %d beside %d drivers = %+v", id, fleet-1, a)
		}
		w.b = a.b
		check(t, w, hire(d), api.ErrTaken)
		check(t, w, hire(idler(25, 0)), api.ErrFull)
		check(t, w, hire(idler(highest-1, 0)), api.ErrFull)
	}
	w := world{m: made(t, 1, 0)}
	for n := range fleet {
		d := idler(fleet-n, 0)
		want := book(slices.Insert(slices.Clone(w.b.Drivers), 0, d), nil, slices.Insert(slices.Clone(w.b.Plan), 0, drive(d.Id))...)
		w = checkBook(t, w, hire(d), want, 0)
	}
	check(t, w, hire(idler(9, 0)), api.ErrFull)
}

// retired returns b with the driver being retired.
func retired(b planner.Book, id int) planner.Book {
	b = copied(b)
	driverThere(b, id).Retired = true
	return b
}

// P14.3: Retire of drivers that no one has, and of those that are retired already
func TestRetireWhom(t *testing.T) {
	for _, w := range worlds(t) {
		for _, id := range append(beyond(), 1, 5, 11, 45, highest) {
			check(t, w, retire(id, 9), api.ErrNone)
			check(t, w, retire(id, 0), api.ErrNone)
		}
		for _, d := range w.b.Drivers {
			for _, budget := range []int{0, 9, budgets} {
				gone := world{w.m, retired(w.b, d.Id)}
				check(t, gone, retire(d.Id, budget), api.ErrGone)
			}
			for _, budget := range wrongBudgets() {
				check(t, w, retire(d.Id, budget), api.ErrArg)
				check(t, w, retire(-1, budget), api.ErrArg)
			}
		}
	}
}

// P14.3: drivers with no stops, and with nothing that is not begun: that takes no steps.
func TestRetireIdle(t *testing.T) {
	w := town(t)
	for _, budget := range []int{0, 1, budgets} {
		for _, id := range []int{20, 30} {
			checkBook(t, w, retire(id, budget), retired(w.b, id), 0)
		}
		w.b.Plan[0].Served, w.b.Plan[3].Served = 2, 3
		for _, id := range []int{10, 40} {
			checkBook(t, w, retire(id, budget), retired(w.b, id), 0)
		}
		// One after another, till none is left
		left := w
		for _, id := range []int{20, 40, 10, 30} {
			left = checkBook(t, left, retire(id, budget), retired(left.b, id), 0)
		}
		check(t, left, place(errand(1, 0, 0), budget), api.ErrRoute)
	}
}

// P14.3: an order is begun, and the other one goes elsewhere: to 20 or 30 it costs 30, to 40 nothing.
func TestRetireBegun(t *testing.T) {
	w := town(t)
	want := retired(w.b, 10)
	want.Plan[0].Stops = []api.Stop{p(2), q(2)}
	near, far := copied(want), copied(want)
	far.Plan[1].Stops = append(far.Plan[1].Stops, p(6), q(6))
	near.Plan[3].Stops = slices.Insert(near.Plan[3].Stops, 0, p(6), q(6))
	check(t, w, retire(10, 0), api.ErrRoute)
	for _, budget := range []int{1, 2} {
		checkBook(t, w, retire(10, budget), far, 0)
	}
	for _, budget := range []int{3, 4, 100, budgets} {
		checkBook(t, w, retire(10, budget), near, 0)
	}
	// Those that are retired take nothing.
	w.b = retired(retired(w.b, 20), 30)
	near = retired(retired(near, 20), 30)
	check(t, w, retire(10, 0), api.ErrRoute)
	checkBook(t, w, retire(10, 1), near, 0)
	w.b = retired(w.b, 40)
	check(t, w, retire(10, budgets), api.ErrRoute)
}

// pair is the lane with the driver 6 beside 4, and with two errands on the route of 4 in one order or the other.
func pair(t *testing.T, stops ...api.Stop) world {
	t.Helper()
	return world{line(t, 4), book([]api.Driver{idler(4, 0), idler(6, 0)}, []api.Order{errand(1, 1, 3), errand(2, 0, 2)}, drive(4, stops...), drive(6))}
}

// P14.3: several orders go elsewhere, by ascending Id, whatever order they stood in. The first one takes one step and the
// second one up to six; the first position is found at one step, the best one at two.
func TestRetireSeveral(t *testing.T) {
	for _, stops := range [][]api.Stop{{p(1), q(1), p(2), q(2)}, {p(2), q(2), p(1), q(1)}, {p(2), p(1), q(1), q(2)}} {
		w := pair(t, stops...)
		for _, budget := range []int{0, 1} {
			check(t, w, retire(4, budget), api.ErrRoute)
		}
		want := retired(w.b, 4)
		want.Plan[0].Stops, want.Plan[1].Stops = nil, []api.Stop{p(2), q(2), p(1), q(1)}
		checkBook(t, w, retire(4, 2), want, 0)
		want.Plan[1].Stops = []api.Stop{p(2), p(1), q(2), q(1)}
		for _, budget := range []int{3, 4, 7, 8, budgets} {
			checkBook(t, w, retire(4, budget), want, 0)
		}
		// One of them is begun, and the other one is not.
		if stops[1].Drop {
			first, other := stops[0].Order, 3-stops[0].Order
			for _, n := range []int{1, 2} {
				w.b.Plan[0].Served = n
				want = retired(w.b, 4)
				want.Plan[0].Stops, want.Plan[1].Stops = []api.Stop{p(first), q(first)}, []api.Stop{p(other), q(other)}
				check(t, w, retire(4, 0), api.ErrRoute)
				checkBook(t, w, retire(4, 1), want, 0)
				checkBook(t, w, retire(4, budgets), want, 0)
			}
		}
	}
}

// P14.3: a budget that ends between two of several: each takes all steps there are, so the last one has one left only when
// the others are through.
func TestRetireBudget(t *testing.T) {
	enough := 1
	for n := 1; n < 7; n++ {
		w := yards(t, 2, n)
		for budget := range enough + 10 {
			why := asked(t, w, retire(10, budget)).why
			if (why == api.OK) != (budget >= enough) || (why == api.ErrRoute) != (budget < enough) {
				t.Fatalf("Retire of one with %d orders and a budget of %d: %d", n, budget, why)
			}
		}
		enough += (2*n - 1) * n
	}
}

// P14.3: as many orders as there may be go elsewhere, and they are in their places again.
func TestRetireMost(t *testing.T) {
	w := yards(t, 2, most)
	w.b.Plan[0].Served = 2 * (most - 12)
	a := asked(t, w, retire(10, budgets))
	if a.why != api.OK || !slices.Equal(a.b.Orders, w.b.Orders) || len(a.b.Plan[0].Stops) != 2*(most-12) || len(a.b.Plan[1].Stops) != 24 {
		t.Fatalf("Retire of one with %d orders = %+v", most, a)
	}
}

// P14.3: an order has no other place: the first one, one between, or the last one.
func TestRetireNowhere(t *testing.T) {
	for i := range 4 {
		w := yards(t, 3, 3)
		if i < 3 {
			w.b.Orders[i].Size = 3
			w.b.Drivers[0].Room = 3
			check(t, w, retire(10, budgets), api.ErrRoute)
			w.b.Drivers[2].Room = 3
		}
		if a := asked(t, w, retire(10, budgets)); a.why != api.OK || len(a.b.Plan[0].Stops) > 0 {
			t.Fatalf("Retire in the yards = %+v", a)
		}
	}
	w := lane(t)
	check(t, w, retire(4, budgets), api.ErrRoute)
	// Each fits by itself, and both do not: 6 has no time for it.
	w = pair(t, p(1), q(1), p(2), q(2))
	w.b.Drivers[1].To = 30
	checkBook(t, world{w.m, takenOut(w.b, 1)}, retire(4, 9), book(
		retired(w.b, 4).Drivers, w.b.Orders[1:], drive(4), drive(6, p(2), q(2)),
	), 0)
	checkBook(t, world{w.m, takenOut(w.b, 2)}, retire(4, 9), book(
		retired(w.b, 4).Drivers, w.b.Orders[:1], drive(4), drive(6, p(1), q(1)),
	), 0)
	w.b.Orders[1] = errand(2, 2, 0)
	check(t, w, retire(4, budgets), api.ErrRoute)
}

// P14.3: on a map that is not Even, what remains may have no certificate, whether or not the others have another place.
func TestRetireGate(t *testing.T) {
	w := short(t)
	for _, budget := range []int{0, 1, budgets} {
		check(t, w, retire(4, budget), api.ErrGate)
		checkBook(t, w, retire(6, budget), retired(w.b, 6), 0)
		check(t, world{w.m, retired(w.b, 6)}, retire(4, budget), api.ErrGate)
		check(t, world{w.m, retired(w.b, 4)}, retire(4, budget), api.ErrGone)
	}
	// With time enough, or on a map that is Even, 5 goes to 6; with 5 begun it stays.
	later, even, begun := short(t), short(t), short(t)
	later.b.Orders[1].Drop.To = 9
	even.m = even.m.Closed()
	for _, w := range []world{later, even} {
		want := retired(w.b, 4)
		want.Plan[0].Stops, want.Plan[1].Stops = []api.Stop{p(7), q(7)}, []api.Stop{p(5), q(5)}
		check(t, w, retire(4, 0), api.ErrRoute)
		checkBook(t, w, retire(4, 1), want, 0)
	}
	begun.b.Plan[0].Served = 2
	checkBook(t, begun, retire(4, 0), retired(begun.b, 4), 0)
}

// P14.3: Serve of each count on each route
func TestServe(t *testing.T) {
	for _, w := range worlds(t) {
		for k, r := range w.b.Plan {
			left := len(r.Stops) - r.Served
			for count := 1; count <= left; count++ {
				want := copied(w.b)
				want.Plan[k].Served += count
				next := checkBook(t, w, serve(r.Driver, count), want, 0)
				if count == left {
					check(t, next, serve(r.Driver, 1), api.ErrArg)
					check(t, next, serve(r.Driver, 0), api.ErrArg)
				}
			}
			for _, count := range []int{0, -1, -left, left + 1, left + 2, len(r.Stops) + 1, 1<<32 + 1, -1 << 32, least, least + 1, greatest - 1, greatest} {
				check(t, w, serve(r.Driver, count), api.ErrArg)
			}
		}
		for _, id := range append(beyond(), 1, 5, 11, 45, highest) {
			for _, count := range []int{0, 1, -1, 2, least, greatest} {
				check(t, w, serve(id, count), api.ErrNone)
			}
		}
	}
}

// P14.3: one stop after another, till the route is done; a driver that is retired goes on with it.
func TestServeAll(t *testing.T) {
	w := town(t)
	w.b.Drivers[3].Retired = true
	for n := range 4 {
		want := copied(w.b)
		want.Plan[3].Served = n + 1
		check(t, w, serve(40, 5-n), api.ErrArg)
		w = checkBook(t, w, serve(40, 1), want, 0)
	}
	check(t, w, serve(40, 1), api.ErrArg)
	check(t, w, drop(3), api.ErrServed)
	check(t, w, drop(9), api.ErrServed)
}

// mended is the world of chapter 13's example runs, with its drivers and orders in their places.
func mended(t *testing.T) world {
	t.Helper()
	w, o := example(t)
	d := w.b.Drivers[0]
	d.Room = 4
	other := d
	other.Id, other.Home = 5, 0
	r := api.Order{Id: 2, Size: 1, Pick: site(0, 0, 100, 1), Drop: site(1, 0, 100, 2)}
	return world{w.m, book([]api.Driver{d, other}, []api.Order{o, r}, drive(4, p(1), q(1)), drive(5, p(2), q(2)))}
}

// P14.3: Mend of chapter 13's example with each budget: the third step finds the better plan.
func TestMendExample(t *testing.T) {
	w := mended(t)
	better := book(w.b.Drivers, w.b.Orders, drive(4), drive(5, p(1), p(2), q(1), q(2)))
	for budget := range 32 {
		want := w.b
		if budget >= 3 {
			want = better
		}
		checkBook(t, w, mend(budget), want, min(budget, 28))
	}
	for _, budget := range []int{100, budgets - 1, budgets} {
		checkBook(t, w, mend(budget), better, 28)
		checkBook(t, world{w.m, better}, mend(budget), better, 14)
	}
	for _, budget := range wrongBudgets() {
		check(t, w, mend(budget), api.ErrArg)
		check(t, world{w.m, better}, mend(budget), api.ErrArg)
	}
}

// P14.3: Mend keeps what is done, and what is begun where it is.
func TestMendServed(t *testing.T) {
	w := mended(t)
	for n := 1; n < 3; n++ {
		// With o begun, r can go along with it as long as o's delivery is not done.
		w.b.Plan[0].Served = n
		want := copied(w.b)
		if n == 1 {
			want.Plan[0].Stops, want.Plan[1].Stops = []api.Stop{p(1), p(2), q(2), q(1)}, nil
		}
		if a := asked(t, w, mend(budgets)); a.why != api.OK || !same(a.b, want) {
			t.Fatalf("Mend of %+v = %+v, not %+v", w, a, want)
		}
	}
	w.b.Plan[1].Served = 2
	for _, budget := range []int{0, 1, budgets} {
		checkBook(t, w, mend(budget), w.b, 0)
	}
}

// P14.3: Mend of a book that is not right, and of plans that there is nothing to change at
func TestMendRefused(t *testing.T) {
	for _, w := range worlds(t) {
		for _, budget := range []int{0, 1, budgets} {
			if a := asked(t, w, mend(budget)); a.why != api.OK || a.steps > budget {
				t.Fatalf("Mend of %+v with %d = %+v", w, budget, a)
			}
			check(t, world{b: w.b}, mend(budget), api.ErrArg)
		}
		for _, budget := range wrongBudgets() {
			check(t, w, mend(budget), api.ErrArg)
		}
		checkBook(t, w, mend(0), w.b, 0)
		for i, b := range broken(w) {
			if i%5 == 0 {
				check(t, world{w.m, b}, mend(9), api.ErrArg)
			}
		}
	}
}
