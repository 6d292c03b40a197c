package insert_test

import (
	"slices"
	"testing"

	"dray/api"
)

// copiedWorld returns w with lists of its own.
func copiedWorld(w world) world {
	w.drivers, w.orders, w.plan = slices.Clone(w.drivers), slices.Clone(w.orders), slices.Clone(w.plan)
	for k, r := range w.plan {
		w.plan[k].Stops = slices.Clone(r.Stops)
	}
	return w
}

// worlds returns worlds in which nothing is wrong: with routes, with some of it done, with drivers that are retired, with
// routes without stops, with a route that has no room, and without anything.
func worlds(t *testing.T) []world {
	t.Helper()
	some, gone, idle, none := street(t), street(t), street(t), street(t)
	some.plan[0].Served, some.plan[1].Served = 1, 2
	gone.drivers[0].Retired, gone.drivers[1].Retired, gone.drivers[2].Retired = true, true, true
	idle.plan = api.Plan{drive(2), drive(7)}
	none.plan, none.drivers, none.orders = nil, nil, nil
	return []world{street(t), some, gone, idle, none, yards(t, most, 0, most), yards(t, fleet, 1, 1, 1, 1, 1, 1, 1, 1)}
}

// checkNot holds that Cheapest refuses w, whatever the budget.
func checkNot(t *testing.T, w world) {
	t.Helper()
	for _, budget := range []int{-1, 0, 1, 9, budgets} {
		checkCheapest(t, w, budget, refused(api.ErrArg))
	}
}

// P12.3: no map
func TestCheapestNoMap(t *testing.T) {
	checkNot(t, world{})
	for _, w := range worlds(t) {
		w.m = nil
		checkNot(t, w)
		w.plan = nil
		checkNot(t, w)
		w.drivers = nil
		checkNot(t, w)
		w.orders = nil
		checkNot(t, w)
	}
}

// P12.3: drivers of which one is not right, at each place, with a route or without; two of one Id; too many
func TestDriversNotTogether(t *testing.T) {
	for _, w := range worlds(t) {
		for i := range w.drivers {
			for _, turn := range wrongDrivers() {
				other := copiedWorld(w)
				turn(&other.drivers[i])
				checkCheapest(t, other, 9, refused(api.ErrArg))
				other.plan = nil
				checkCheapest(t, other, 9, refused(api.ErrArg))
			}
			for j := range w.drivers {
				if i != j {
					other := copiedWorld(w)
					other.drivers[i] = w.drivers[j]
					checkNot(t, other)
					other = copiedWorld(w)
					other.drivers[i].Id = w.drivers[j].Id
					other.plan = nil
					checkNot(t, other)
				}
			}
		}
	}
	for _, n := range []int{fleet, fleet + 1, fleet + 2, 2 * fleet, 256, 256 + 2} {
		w := street(t)
		for len(w.drivers) < n {
			w.drivers = append(w.drivers, api.Driver{Id: 100 + len(w.drivers), Room: 1})
		}
		want := refused(api.ErrArg)
		if n == fleet {
			want = found(spot(5, 0, 0, 0), 13)
		}
		checkCheapest(t, w, 99, want)
	}
}

// P12.3: orders that are not known: one that is not right, at each place, two of one Id, and too many
func TestOrdersNotTogether(t *testing.T) {
	for _, w := range worlds(t) {
		for i := range w.orders {
			for k, turn := range wrongOrders() {
				other := copiedWorld(w)
				turn(&other.orders[i])
				checkCheapest(t, other, 9, refused(api.ErrArg))
				if k%8 == 0 {
					other.plan = nil
					checkNot(t, other)
				}
			}
			other := copiedWorld(w)
			other.orders = append(other.orders, w.orders[i])
			checkNot(t, other)
			other.plan = nil
			checkNot(t, other)
		}
	}
	for _, n := range []int{most + 1, most + 2, 2 * most, 256, 256 + 1} {
		checkNot(t, yards(t, n, 0))
		checkNot(t, yards(t, n, 3, 2))
		checkNot(t, yards(t, n))
	}
}

// P12.3: plans that are not right, of each kind there is
func TestPlanNotTogether(t *testing.T) {
	w := street(t)
	var plans []api.Plan
	add := func(turn func(a api.Plan) api.Plan) { plans = append(plans, turn(copiedWorld(w).plan)) }
	for i := range w.plan {
		for _, n := range []int{-1, len(w.plan[i].Stops) + 1, crowd + 1, least, greatest, 1 << 32} {
			add(func(a api.Plan) api.Plan { a[i].Served = n; return a })
			add(func(a api.Plan) api.Plan { a[i].Served = n; return a[i : i+1] })
		}
		for _, n := range beyond() {
			add(func(a api.Plan) api.Plan { a[i].Driver = n; return a })
			add(func(a api.Plan) api.Plan { a[i].Stops = append(a[i].Stops, p(n), q(n)); return a })
		}
		for j := range w.plan {
			if i != j {
				add(func(a api.Plan) api.Plan { a[i], a[j] = a[j], a[i]; return a })
				add(func(a api.Plan) api.Plan { a[i].Driver = a[j].Driver; return a })
			}
		}
		add(func(a api.Plan) api.Plan { a[i].Stops = append(a[i].Stops, a[0].Stops...); return a })
	}
	add(func(a api.Plan) api.Plan { return append(a, drive(7)) })
	plans = append(plans, api.Plan{{}}, make(api.Plan, 3), make(api.Plan, 300))
	for _, a := range plans {
		w.plan = a
		checkNot(t, w)
		for i := range w.drivers {
			w.drivers[i].Retired = !w.drivers[i].Retired
		}
		checkNot(t, w)
	}
	// One route more than there may be
	w = yards(t, fleet, 1, 1, 1, 1, 1, 1, 1, 1)
	checkCheapest(t, w, 99, found(spot(10, 0, 0, 0), 48))
	w.plan = append(w.plan, drive(90))
	checkNot(t, w)
}

// P12.3: plans in which cert.Make finds a Fault, on each of the routes: a driver that is not there, and stops that can't be
// made; in a route that would be skipped as well
func TestPlanWithFault(t *testing.T) {
	w := yards(t, 10, 2, 2, 2, 2)
	for k := range w.plan {
		id := w.plan[k].Driver
		for _, turn := range []func(w world){
			func(w world) { w.plan[k].Driver++ },
			func(w world) { w.driver(id).Id++ },
			func(w world) { w.driver(id).Room = 1; w.orders[2*k].Size = 2 },
			func(w world) { w.orders[2*k].Pick.Service = 1 },
			func(w world) { w.orders[2*k+1].Drop.Window = window(longest, longest) },
			func(w world) { w.orders[2*k].Id = 50 },
			func(w world) { w.plan[k].Stops = w.plan[k].Stops[:3] },
			func(w world) { w.plan[k].Stops = w.plan[k].Stops[1:] },
			func(w world) { slices.Reverse(w.plan[k].Stops) },
			func(w world) { w.plan[k].Stops = append(w.plan[k].Stops, p(99), q(99)) },
			func(w world) { w.plan[k].Stops = append(w.plan[k].Stops, p(9)) },
			func(w world) { w.plan[k].Stops = append(w.plan[k].Stops, q(9)) },
		} {
			other := copiedWorld(w)
			turn(other)
			checkNot(t, other)
			for i := range other.drivers {
				other.drivers[i].Retired = true
			}
			checkNot(t, other)
		}
		other := copiedWorld(w)
		other.driver(id).Retired = true
		first := 10
		if k == 0 {
			first = 20
		}
		checkCheapest(t, other, 99, found(spot(first, 0, 0, 0), 45))
	}
	// The two stops of an order on two routes
	w.plan[0].Stops, w.plan[1].Stops = append(w.plan[0].Stops, p(9)), append(w.plan[1].Stops, q(9))
	checkNot(t, w)
}

// P12.3: an order to be put in that is not right, or has the Id of one that is listed, whether it stands or not
func TestCheapestOrderWrong(t *testing.T) {
	for _, w := range worlds(t) {
		for _, turn := range wrongOrders() {
			other := copiedWorld(w)
			turn(&other.o)
			checkNot(t, other)
			other.plan = nil
			checkNot(t, other)
		}
		for i, o := range w.orders {
			other := copiedWorld(w)
			other.o.Id = o.Id
			checkNot(t, other)
			other.o = o
			checkNot(t, other)
			other.plan = nil
			checkNot(t, other)
			other = copiedWorld(w)
			other.plan = nil
			other.orders[i].Id = w.o.Id
			checkNot(t, other)
		}
	}
}

// P12.3: a budget that can't be, and the least and greatest ones that can
func TestCheapestBudgetWrong(t *testing.T) {
	for _, w := range worlds(t) {
		for _, budget := range wrongBudgets() {
			checkCheapest(t, w, budget, refused(api.ErrArg))
		}
		for _, budget := range []int{0, 1, budgets - 1, budgets} {
			if a := cheapest(t, w, budget); a.why == api.ErrArg || a.steps > budget {
				t.Fatalf("Cheapest(%+v, %d) = %v", w, budget, a)
			}
		}
	}
}
