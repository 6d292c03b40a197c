package repair_test

import (
	"slices"
	"testing"

	"dray/api"
	"dray/geo"
	"dray/repair"
)

// wrongWindows holds windows that are wrong in each of the ways there are.
func wrongWindows() []api.Window {
	return []api.Window{
		window(-1, 9), window(5, 4), window(0, -1), window(0, longest+1), window(longest+1, longest+1),
		window(least, greatest), window(greatest, least), window(0, 1<<32),
	}
}

// wrongDrivers returns changes of a driver to one that is not right on a map of up to five places.
func wrongDrivers() []func(d *api.Driver) {
	var l []func(d *api.Driver)
	add := func(turn func(d *api.Driver)) { l = append(l, turn) }
	add(func(d *api.Driver) { *d = api.Driver{} })
	for _, n := range beyond() {
		add(func(d *api.Driver) { d.Id = n })
	}
	for _, n := range []int{0, -1, biggest + 1, 1<<32 + 3, least, greatest} {
		add(func(d *api.Driver) { d.Room = n })
	}
	for _, n := range []int{-1, 5, places, 1 << 32, least, greatest} {
		add(func(d *api.Driver) { d.Home = n })
	}
	for _, w := range wrongWindows() {
		add(func(d *api.Driver) { d.Window = w })
	}
	return l
}

// wrongOrders returns changes of an order to one that is not right on a map of up to five places.
func wrongOrders() []func(o *api.Order) {
	var l []func(o *api.Order)
	add := func(turn func(o *api.Order)) { l = append(l, turn) }
	add(func(o *api.Order) { *o = api.Order{} })
	for _, n := range beyond() {
		add(func(o *api.Order) { o.Id = n })
	}
	for _, n := range []int{0, -1, biggest + 1, 1<<32 + 3, least, greatest} {
		add(func(o *api.Order) { o.Size = n })
	}
	for _, n := range []int{-1, 5, places, 1 << 32, least, greatest} {
		add(func(o *api.Order) { o.Pick.Place = n })
		add(func(o *api.Order) { o.Drop.Place = n })
	}
	for _, w := range wrongWindows() {
		add(func(o *api.Order) { o.Pick.Window = w })
		add(func(o *api.Order) { o.Drop.Window = w })
	}
	for _, n := range []int{-1, longest + 1, 1 << 32, least, greatest} {
		add(func(o *api.Order) { o.Pick.Service = n })
		add(func(o *api.Order) { o.Drop.Service = n })
	}
	return l
}

// wrongBudgets holds numbers that are not from 0 to MaxBudget.
func wrongBudgets() []int {
	return []int{-1, -2, budgets + 1, budgets + 2, 1 << 32, 1<<32 + 9, -1 << 32, least, least + 1, greatest - 1, greatest}
}

// worlds returns worlds in which nothing is wrong: plans that a pass changes and that it does not change, with some of it
// done, with drivers that are retired, with orders and drivers at their most, and without anything.
func worlds(t *testing.T) []world {
	t.Helper()
	some, gone, idle, none := lane(t), town(t), town(t), town(t)
	some.plan[0].Served = 1
	for i := range gone.drivers {
		gone.drivers[i].Retired = true
	}
	idle.plan = api.Plan{drive(2), drive(8)}
	none.plan, none.drivers, none.orders = nil, nil, nil
	return []world{
		example(t), lane(t), town(t), chain(t, 2, 1, 3), some, gone, idle, none, yards(t, most, 0, 4, 0), yards(t, 8, 1, 1, 1, 1, 1, 1, 1, 1),
	}
}

// P13.1 to P13.3: no map
func TestNoMap(t *testing.T) {
	checkRefused(t, world{})
	for _, w := range worlds(t) {
		w.m = nil
		checkRefused(t, w)
		w.plan = nil
		checkRefused(t, w)
		w.drivers = nil
		checkRefused(t, w)
		w.orders = nil
		checkRefused(t, w)
	}
}

// P13.1 to P13.3: drivers of which one is not right, at each place, with a route or without
func TestDriverWrong(t *testing.T) {
	for _, w := range worlds(t) {
		for i := range w.drivers {
			for _, turn := range wrongDrivers() {
				other := copied(w)
				turn(&other.drivers[i])
				checkRefused(t, other)
				other.plan = nil
				checkRefused(t, other)
			}
		}
	}
}

// P13.1 to P13.3: two drivers of one Id, and too many
func TestDriversTwice(t *testing.T) {
	for _, w := range worlds(t) {
		for i := range w.drivers {
			for j := range w.drivers {
				if i != j {
					other := copied(w)
					other.drivers[i] = w.drivers[j]
					checkRefused(t, other)
					other = copied(w)
					other.drivers[i].Id = w.drivers[j].Id
					other.plan = nil
					checkRefused(t, other)
				}
			}
		}
	}
	for _, n := range []int{fleet, fleet + 1, fleet + 2, 2 * fleet, 256, 256 + 5} {
		w := town(t)
		for len(w.drivers) < n {
			w.drivers = append(w.drivers, idler(100+len(w.drivers), 0))
		}
		if n == fleet {
			checkTotal(t, w, 90)
			continue
		}
		checkRefused(t, w)
		w.plan = nil
		checkRefused(t, w)
	}
}

// P13.1 to P13.3: orders that are not known: one that is not right, at each place, two of one Id, and too many
func TestOrdersWrong(t *testing.T) {
	for _, w := range worlds(t) {
		for i := range w.orders {
			for k, turn := range wrongOrders() {
				if i > 3 && k%8 > 0 {
					continue
				}
				other := copied(w)
				turn(&other.orders[i])
				checkRefused(t, other)
				other.plan = nil
				checkRefused(t, other)
			}
			other := copied(w)
			other.orders = append(other.orders, w.orders[i])
			checkRefused(t, other)
			other.plan = nil
			checkRefused(t, other)
		}
	}
	for _, n := range []int{most + 1, most + 2, 2 * most, 256, 256 + 1} {
		checkRefused(t, yards(t, n, 0))
		checkRefused(t, yards(t, n, 3, 2))
		checkRefused(t, yards(t, n))
	}
}

// wrongPlans returns plans for the town that are not right, of each kind there is.
func wrongPlans(t *testing.T) []api.Plan {
	t.Helper()
	var l []api.Plan
	plan := town(t).plan
	add := func(turn func(a api.Plan) api.Plan) { l = append(l, turn(copied(town(t)).plan)) }
	for i := range plan {
		for _, n := range []int{-1, len(plan[i].Stops) + 1, crowd + 1, least, greatest, 1 << 32} {
			add(func(a api.Plan) api.Plan { a[i].Served = n; return a })
			add(func(a api.Plan) api.Plan { a[i].Served = n; return a[i : i+1] })
		}
		for _, n := range beyond() {
			add(func(a api.Plan) api.Plan { a[i].Driver = n; return a })
			add(func(a api.Plan) api.Plan { a[i].Stops = append(a[i].Stops, p(n), q(n)); return a })
		}
		for j := range plan {
			if i != j {
				add(func(a api.Plan) api.Plan { a[i], a[j] = a[j], a[i]; return a })
				add(func(a api.Plan) api.Plan { a[i].Driver = a[j].Driver; return a })
			}
		}
		add(func(a api.Plan) api.Plan { a[i].Stops = append(a[i].Stops, a[0].Stops...); return a })
		add(func(a api.Plan) api.Plan { a[i].Stops = append(a[i].Stops, p(7), q(7), q(7)); return a })
	}
	add(func(a api.Plan) api.Plan { return append(a, drive(8)) })
	return append(l, api.Plan{{}}, make(api.Plan, 4), make(api.Plan, 300))
}

// P13.1 to P13.3: plans that are not right
func TestPlanWrong(t *testing.T) {
	w := town(t)
	for _, a := range wrongPlans(t) {
		w.plan = a
		checkRefused(t, w)
	}
	// One route more than there may be
	w = yards(t, fleet, 1, 1, 1, 1, 1, 1, 1, 1)
	w.plan = append(w.plan, drive(90))
	checkRefused(t, w)
}

// P13.2 and P13.3: a budget that can't be, and the least and greatest ones that can
func TestBudgetWrong(t *testing.T) {
	for _, w := range worlds(t) {
		for _, budget := range wrongBudgets() {
			checkPass(t, w, budget, refused())
			checkRepair(t, w, budget, refused())
		}
		checkPass(t, w, 0, answer{plan: w.plan, passes: 1})
		checkRepair(t, w, 0, answer{plan: w.plan})
		for _, budget := range []int{1, budgets - 1, budgets} {
			if a := pass(t, w, budget); a.why != api.OK || a.steps > budget {
				t.Fatalf("Pass(%+v, %d) = %v", w, budget, a)
			}
			if a := mend(t, w, budget); a.why != api.OK || a.steps > budget || a.passes < 1 {
				t.Fatalf("Repair(%+v, %d) = %v", w, budget, a)
			}
		}
	}
}

// R1: nothing but zero values, nothing, and lists far beyond the bounds
func TestAnything(t *testing.T) {
	const far = 1 << 16
	m := made(t, 1, 0)
	d, o := api.Driver{Id: 1, Room: 1}, errand(1, 0, 0)
	for _, w := range []world{
		{m: &geo.Map{}, drivers: []api.Driver{d}}, {m: &geo.Map{}, orders: []api.Order{o}}, {m: m, drivers: []api.Driver{{}}},
		{m: m, orders: []api.Order{{}}}, {m: m, plan: api.Plan{{}}}, {m: m, drivers: make([]api.Driver, fleet)},
		{m: m, orders: make([]api.Order, most)}, {m: m, plan: make(api.Plan, fleet)},
	} {
		checkRefused(t, w)
	}
	many := make([]api.Stop, far)
	for i := range many {
		many[i] = p(i + 1)
	}
	for _, w := range []world{
		{drivers: make([]api.Driver, far)}, {drivers: slices.Repeat([]api.Driver{d}, far)},
		{orders: make([]api.Order, far)}, {orders: slices.Repeat([]api.Order{o}, far)}, {plan: make(api.Plan, far)},
		{plan: api.Plan{drive(1, make([]api.Stop, far)...)}}, {plan: api.Plan{drive(1, many...)}},
	} {
		w.m = m
		if n, ok := repair.Total(w.m, w.drivers, w.orders, w.plan); n != 0 || ok {
			t.Fatalf("Total of long lists = %d, %v", n, ok)
		}
		if a := passed(w, 9); !a.is(refused()) {
			t.Fatalf("Pass of long lists = %v", a)
		}
		if a := mended(w, 9); !a.is(refused()) {
			t.Fatalf("Repair of long lists = %v", a)
		}
	}
	checkTotal(t, world{m: m}, 0)
	checkRepair(t, world{m: m}, 9, answer{passes: 1})
}
