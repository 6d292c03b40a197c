package insert_test

import (
	"slices"
	"testing"

	"dray/api"
)

// climb holds what Cheapest is to return with each budget from 0 on, and that it is the last of them with any greater one.
func climb(t *testing.T, w world, want ...api.Spot) {
	t.Helper()
	steps := len(want)
	want = append([]api.Spot{{}}, want...)
	for _, budget := range []int{steps + 1, steps + 2, 2*steps + 3, 1000, budgets - 1, budgets} {
		checkClimb(t, w, budget, want[steps], steps)
	}
	for budget, s := range want {
		checkClimb(t, w, budget, s, budget)
	}
	for _, budget := range []int{-1, -steps - 1, least, budgets + 1, greatest, 1 << 32, 1<<32 + steps} {
		checkCheapest(t, w, budget, refused(api.ErrArg))
	}
}

// checkClimb holds that Cheapest returns s after that many steps; the zero Spot is none.
func checkClimb(t *testing.T, w world, budget int, s api.Spot, steps int) {
	t.Helper()
	a := found(s, steps)
	if s == (api.Spot{}) {
		a = nowhere(steps)
	}
	checkCheapest(t, w, budget, a)
}

// P12.3: the positions of all routes in their order, with prices that are worked out by hand; each budget up to as many as
// there are, and more: it ends in the midst of a route and between two routes.
func TestClimb(t *testing.T) {
	w := street(t)
	// On the route of 2: 40, 40, 50, 20, 10 and 10; on that of 5: 0, 0, 20, 20, 40 and 40; on that of 7: 30.
	far, near, here := spot(2, 0, 0, 40), spot(2, 1, 2, 10), spot(5, 0, 0, 0)
	climb(t, w, far, far, far, spot(2, 1, 1, 20), near, near, here, here, here, here, here, here, here)
	// What is done is not open: 20, 10 and 10; 40; and 30.
	w.plan[0].Served, w.plan[1].Served = 1, 2
	climb(t, w, spot(2, 1, 1, 20), near, near, near, near)
	w.plan[0].Served = 2
	climb(t, w, spot(2, 2, 2, 10), spot(2, 2, 2, 10), spot(2, 2, 2, 10))
	// The other way round, from 2 to 3: 20 behind all of 2; 30 behind all of 5; and 20 on the route of 7.
	w.o = errand(9, 2, 3)
	climb(t, w, spot(2, 2, 2, 20), spot(2, 2, 2, 20), spot(2, 2, 2, 20))
	w.plan = w.plan[1:]
	climb(t, w, spot(5, 2, 2, 30), spot(7, 0, 0, 20))
}

// P12.3: routes of Retired drivers are skipped, without a step, wherever they stand.
func TestRetired(t *testing.T) {
	retired := func(ids ...int) world {
		w := street(t)
		for _, id := range ids {
			w.driver(id).Retired = true
		}
		return w
	}
	far, near, here, idle := spot(2, 0, 0, 40), spot(2, 1, 2, 10), spot(5, 0, 0, 0), spot(7, 0, 0, 30)
	climb(t, retired(2), here, here, here, here, here, here, here)
	climb(t, retired(5), far, far, far, spot(2, 1, 1, 20), near, near, near)
	climb(t, retired(7), far, far, far, spot(2, 1, 1, 20), near, near, here, here, here, here, here, here)
	climb(t, retired(2, 5), idle)
	climb(t, retired(2, 7), here, here, here, here, here, here)
	climb(t, retired(5, 7), far, far, far, spot(2, 1, 1, 20), near, near)
	climb(t, retired(2, 5, 7))
	// A driver without a route makes no difference.
	w := retired()
	w.plan = w.plan[2:]
	for _, id := range []int{2, 5} {
		w.driver(id).Retired = !w.driver(id).Retired
		climb(t, w, idle)
	}
	// A route with what a driver can't do is a Fault, whether or not it is skipped.
	w = retired(2)
	w.driver(2).To = 29
	checkCheapest(t, w, 9, refused(api.ErrArg))
}

// P12.3: of equal prices on several routes, the first route, not the first driver, and not the last.
func TestEqualRoutes(t *testing.T) {
	w := world{m: made(t, 1, 0), o: errand(99, 0, 0)}
	for id := fleet; id > 0; id-- {
		w.drivers = append(w.drivers, api.Driver{Id: 10 * id, Room: 1})
	}
	for id := 1; id <= fleet; id++ {
		w.plan = append(w.plan, drive(10*id))
	}
	for k := range fleet {
		for n := range fleet - k + 1 {
			other := w
			other.plan = w.plan[k : k+n]
			want := slices.Repeat([]api.Spot{spot(10*(k+1), 0, 0, 0)}, n)
			climb(t, other, want...)
		}
	}
	// One that costs less by one, behind others and ahead of others
	for k := range fleet {
		other := w
		other.m, other.drivers = made(t, 3, 0, 9, 9, 9, 0, 9, 8, 9, 0), slices.Clone(w.drivers)
		for i := range other.drivers {
			other.drivers[i].Home, other.drivers[i].To = 1, 9
		}
		other.driver(10 * (k + 1)).Home = 2
		var want []api.Spot
		for i := range fleet {
			if i < k {
				want = append(want, spot(10, 0, 0, 9))
			} else {
				want = append(want, spot(10*(k+1), 0, 0, 8))
			}
		}
		climb(t, other, want...)
	}
}

// P12.3: an order that fits on one route only, or on none
func TestOnlyRoute(t *testing.T) {
	w := street(t)
	w.o.Size = 8
	w.drivers[0].Room, w.drivers[1].Room, w.drivers[2].Room = 7, 7, 8
	none := api.Spot{}
	// Beside the other order there is no room: 0, 20 more and 40 more on the route of 5.
	here := spot(5, 0, 0, 0)
	climb(t, w, none, none, none, none, none, none, here, here, here, here, here, here, here)
	w.plan[1].Served = 1
	last := spot(5, 2, 2, 40)
	climb(t, w, none, none, none, none, none, none, none, none, last, last)
	w.o.Size = 9
	climb(t, w, none, none, none, none, none, none, none, none, none, none)
	w.drivers[0].Room = 9
	climb(t, w, none, none, none, none, none, none, none, none, none, spot(7, 0, 0, 30))
}

// P12.3: no routes, no drivers, no orders
func TestNoRoutes(t *testing.T) {
	w := street(t)
	for _, none := range []api.Plan{nil, {}} {
		w.plan = none
		climb(t, w)
		w.drivers = nil
		climb(t, w)
		w.orders = nil
		climb(t, w)
		w.drivers = street(t).drivers
		climb(t, w)
	}
	w.plan = street(t).plan
	checkCheapest(t, w, 9, refused(api.ErrArg))
	w.plan = api.Plan{drive(2), drive(5), drive(7)}
	climb(t, w, spot(2, 0, 0, 40), spot(5, 0, 0, 10), spot(5, 0, 0, 10))
	w.drivers = nil
	checkCheapest(t, w, 9, refused(api.ErrArg))
}

// yards returns a world of one place with a route for each number, of as many orders, the drivers being 10, 20, .., and
// with n orders in all.
func yards(t *testing.T, n int, each ...int) world {
	t.Helper()
	w := world{m: made(t, 1, 0), o: errand(99, 0, 0)}
	for id := 1; id <= n; id++ {
		w.orders = append(w.orders, errand(id, 0, 0))
	}
	next := 1
	for k, count := range each {
		r := drive(10 * (k + 1))
		for range count {
			r.Stops = append(r.Stops, p(next), q(next))
			next++
		}
		w.plan = append(w.plan, r)
		w.drivers = append(w.drivers, api.Driver{Id: r.Driver, Room: 2})
	}
	return w
}

// P12.3: routes of more than MaxStops - 2 stops are skipped, among others; with so many orders, one more fits nowhere, but
// is tried.
func TestLongRoutes(t *testing.T) {
	for _, c := range []struct{ each, steps []int }{
		{[]int{most}, nil}, {[]int{0, most}, []int{1}}, {[]int{most, 0}, []int{1}}, {[]int{0, most, 0}, []int{1, 1}},
		{[]int{0, 0, 0, most, 0, 0, 0, 0}, []int{1, 1, 1, 1, 1, 1, 1}}, {[]int{most - 1}, []int{3160}},
		{[]int{most - 1, 1}, []int{3160, 6}}, {[]int{1, most - 1}, []int{6, 3160}}, {[]int{1, most - 2, 1}, []int{6, 3003, 6}},
		{[]int{5, 5, 5, 5, 5, 5, 5, 5}, []int{66, 66, 66, 66, 66, 66, 66, 66}},
	} {
		w := yards(t, most, c.each...)
		total := 0
		for _, n := range c.steps {
			total += n
			checkCheapest(t, w, total-1, nowhere(total-1))
			checkCheapest(t, w, total, nowhere(total))
		}
		checkCheapest(t, w, total+1, nowhere(total))
		checkCheapest(t, w, budgets, nowhere(total))
		checkCheapest(t, w, 0, nowhere(0))
		// The first route is skipped now, if it was not before.
		w.drivers[0].Retired = true
		if c.each[0] < most {
			total -= c.steps[0]
		}
		checkCheapest(t, w, budgets, nowhere(total))
	}
}

// P12.3: MaxOrders orders and one fewer; MaxStops - 2 stops on a route among others
func TestMostOrdersInPlan(t *testing.T) {
	for _, each := range [][]int{{0}, {3}, {2, 2}, {0, 5, 0}, {1, 1, 1, 1, 1, 1, 1, 1}, {0, most - 1, 0}, {most - 1}} {
		total := 0
		for _, n := range each {
			total += positions(2 * n)
		}
		checkCheapest(t, yards(t, most-1, each...), budgets, found(spot(10, 0, 0, 0), total))
		checkCheapest(t, yards(t, most, each...), budgets, nowhere(total))
		checkCheapest(t, yards(t, most+1, each...), budgets, refused(api.ErrArg))
		checkCheapest(t, yards(t, most, each...), 1, nowhere(1))
	}
	// Only the last route is within reach; the one ahead of it is as long as can be.
	w := yards(t, most-1, most-1, 0)
	w.m = line(t, 2)
	for i := range w.drivers {
		w.drivers[i].To = 10 * i
	}
	w.o = errand(99, 0, 1)
	checkCheapest(t, w, 3160, nowhere(3160))
	checkCheapest(t, w, 3161, found(spot(20, 0, 0, 10), 3161))
	w.drivers[0].To = 10
	checkCheapest(t, w, crowd-2, nowhere(crowd-2))
	checkCheapest(t, w, crowd-1, found(spot(10, 0, crowd-2, 10), crowd-1))
	checkCheapest(t, w, 3161, found(spot(10, 0, crowd-2, 10), 3161))
}

// P12.3: the order in which drivers and orders are listed has no influence, nor has it whether others are listed.
func TestLists(t *testing.T) {
	w := street(t)
	far, near, here := spot(2, 0, 0, 40), spot(2, 1, 2, 10), spot(5, 0, 0, 0)
	want := []api.Spot{far, far, far, spot(2, 1, 1, 20), near, near, here, here, here, here, here, here, here}
	for i := range w.drivers {
		for j := range w.drivers {
			w.drivers[i], w.drivers[j] = w.drivers[j], w.drivers[i]
			slices.Reverse(w.orders)
			climb(t, w, want...)
		}
	}
	w.drivers = append([]api.Driver{{Id: 3, Room: 1}, {Id: 1, Room: 1, Retired: true}}, w.drivers...)
	w.orders = append([]api.Order{errand(8, 0, 0)}, w.orders...)
	climb(t, w, want...)
}
