package audit_test

import (
	"slices"
	"testing"

	"dray/api"
)

// worlds returns worlds that are right on the same places: with nothing in them, without routes, with routes that have
// stops and none, and with routes that have Troubles.
func worlds(t *testing.T) []world {
	t.Helper()
	w := town(t)
	bare, idle, late, unknown := w, w, w, w
	bare.drivers, bare.orders, bare.plan = nil, nil, nil
	idle.plan = nil
	late.plan = api.Plan{drive(3, p(60), q(60)), drive(7, p(20))}
	unknown.plan = api.Plan{drive(1), drive(8, p(99)), drive(12, q(60), p(60))}
	return []world{w, bare, idle, late, unknown}
}

// checkNotTogether holds that what goes into w does not go together, and that nothing else is told of it.
func checkNotTogether(t *testing.T, w world) {
	t.Helper()
	check(t, w, trouble(0, 0, api.ErrArg))
}

// wrongWindows holds windows that are wrong in each of the ways there are.
func wrongWindows() []api.Window {
	return []api.Window{
		window(-1, 9), window(5, 4), window(0, -1), window(0, longest+1), window(longest+1, longest+1),
		window(least, greatest), window(greatest, least), window(0, 1<<32),
	}
}

// wrongDrivers returns changes of a driver of the town to one that is not right.
func wrongDrivers() []func(d *api.Driver) {
	var l []func(d *api.Driver)
	add := func(turn func(d *api.Driver)) { l = append(l, turn) }
	add(func(d *api.Driver) { *d = api.Driver{} })
	for _, n := range beyond() {
		add(func(d *api.Driver) { d.Id = n })
	}
	for _, n := range []int{0, -1, biggest + 1, 1<<32 + 3, least, greatest} {
		add(func(d *api.Driver) { d.Room = n })
	}
	for _, n := range []int{-1, 3, places, 1 << 32, least, greatest} {
		add(func(d *api.Driver) { d.Home = n })
	}
	for _, w := range wrongWindows() {
		add(func(d *api.Driver) { d.Window = w })
	}
	return l
}

// wrongOrders returns changes of an order of the town to one that is not right.
func wrongOrders() []func(o *api.Order) {
	var l []func(o *api.Order)
	add := func(turn func(o *api.Order)) { l = append(l, turn) }
	add(func(o *api.Order) { *o = api.Order{} })
	for _, n := range beyond() {
		add(func(o *api.Order) { o.Id = n })
	}
	for _, n := range []int{0, -1, biggest + 1, 1<<32 + 3, least, greatest} {
		add(func(o *api.Order) { o.Size = n })
	}
	for _, n := range []int{-1, 3, places, 1 << 32, least, greatest} {
		add(func(o *api.Order) { o.Pick.Place = n })
		add(func(o *api.Order) { o.Drop.Place = n })
	}
	for _, w := range wrongWindows() {
		add(func(o *api.Order) { o.Pick.Window = w })
		add(func(o *api.Order) { o.Drop.Window = w })
	}
	for _, n := range []int{-1, longest + 1, 1 << 32, least, greatest} {
		add(func(o *api.Order) { o.Pick.Service = n })
		add(func(o *api.Order) { o.Drop.Service = n })
	}
	return l
}

// wrongPlans returns plans that are not right, of each kind there is. Apart from what is wrong, nothing is told of them in
// the town.
func wrongPlans(t *testing.T) []api.Plan {
	t.Helper()
	w := town(t)
	var l []api.Plan
	add := func(turn func(a api.Plan) api.Plan) { l = append(l, turn(slices.Clone(w.plan))) }
	for i := range w.plan {
		for _, n := range []int{-1, len(w.plan[i].Stops) + 1, crowd + 1, least, greatest, 1 << 32} {
			add(func(a api.Plan) api.Plan { a[i].Served = n; return a })
			add(func(a api.Plan) api.Plan { a[i].Served = n; return a[i : i+1] })
		}
		for _, n := range beyond() {
			add(func(a api.Plan) api.Plan { a[i].Driver = n; return a })
			add(func(a api.Plan) api.Plan { a[i].Driver = n; return a[i : i+1] })
			add(func(a api.Plan) api.Plan { a[i].Stops = append(slices.Clone(a[i].Stops), p(n)); return a })
			add(func(a api.Plan) api.Plan { a[i].Stops = append([]api.Stop{q(n)}, a[i].Stops...); return a })
		}
		for j := range w.plan {
			if i != j {
				add(func(a api.Plan) api.Plan { a[i], a[j] = a[j], a[i]; return a })
				add(func(a api.Plan) api.Plan { a[i].Driver = a[j].Driver; return a })
			}
			for _, s := range w.plan[j].Stops {
				add(func(a api.Plan) api.Plan { a[i].Stops = append(slices.Clone(a[i].Stops), s); return a })
			}
		}
		var many []api.Stop
		for id := range crowd + 1 {
			many = append(many, p(1000+id))
		}
		add(func(a api.Plan) api.Plan { a[i].Stops = many; return a })
	}
	add(func(a api.Plan) api.Plan { return append(a, drive(12)) })
	add(func(a api.Plan) api.Plan { return append(api.Plan{drive(3)}, a...) })
	for n := fleet + 1; n < fleet+4; n++ {
		add(func(a api.Plan) api.Plan {
			for i := len(a); i < n; i++ {
				a = append(a, drive(100+i))
			}
			return a
		})
	}
	return append(l, api.Plan{{}}, make(api.Plan, 4), make(api.Plan, 300))
}

// P11.1: no map
func TestNoMap(t *testing.T) {
	checkNotTogether(t, world{})
	for _, w := range worlds(t) {
		w.m = nil
		checkNotTogether(t, w)
		w.drivers = nil
		checkNotTogether(t, w)
		w.orders = nil
		checkNotTogether(t, w)
		w.plan = nil
		checkNotTogether(t, w)
	}
}

// P11.1: a map is all that is needed.
func TestMapAlone(t *testing.T) {
	for _, n := range []int{1, 2, places} {
		m := made(t, n, make([]int, n*n)...)
		check(t, world{m: m})
		check(t, world{m: m, drivers: []api.Driver{}, orders: []api.Order{}, plan: api.Plan{}})
	}
}

// P11.1: up to MaxDrivers drivers, and more
func TestNumbersOfDrivers(t *testing.T) {
	for _, n := range []int{0, 1, 2, fleet - 1, fleet, fleet + 1, fleet + 2, 2 * fleet, 256, 256 + 1} {
		w := yard(t, 1, 1)
		full := w.plan
		w.drivers = nil
		for i := range n {
			w.drivers = append(w.drivers, api.Driver{Id: 10 * (i + 1), Room: 1, Window: window(10, 100)})
		}
		for _, plan := range []api.Plan{nil, {drive(10)}, full} {
			w.plan = plan
			var want []api.Trouble
			if n == 0 && len(plan) > 0 {
				want = append(want, trouble(10, 0, api.ErrNone))
			}
			if len(plan) == 0 || len(plan[0].Stops) == 0 {
				want = append(want, trouble(0, 1, api.ErrMiss))
			}
			if n > fleet {
				checkNotTogether(t, w)
			} else {
				check(t, w, want...)
			}
		}
	}
}

// P11.1: a driver that is not right, at each place of the list, with a route or without
func TestDriverWrong(t *testing.T) {
	for _, w := range worlds(t) {
		for i := range w.drivers {
			for _, turn := range wrongDrivers() {
				other := w
				other.drivers = slices.Clone(w.drivers)
				turn(&other.drivers[i])
				checkNotTogether(t, other)
			}
		}
	}
}

// P11.1: drivers at the bounds of what is right
func TestDriversAtBounds(t *testing.T) {
	for _, d := range []api.Driver{
		{Id: 1, Room: 1, Window: window(0, 0)},
		{Id: highest, Room: biggest, Window: window(0, longest), Retired: true},
		{Id: 2, Room: 1, Window: window(longest, longest)},
	} {
		w := yard(t, 1, 1)
		w.drivers = append(w.drivers, d)
		check(t, w)
		w.drivers, w.plan = []api.Driver{d}, api.Plan{drive(d.Id, w.plan[0].Stops...)}
		check(t, w)
		w.plan[0].Stops = []api.Stop{q(1), p(1)}
		check(t, w, trouble(d.Id, 1, api.ErrFirst), trouble(d.Id, 1, api.ErrLack))
	}
}

// P11.1: two drivers of one Id at all places, alike or not, with a route or without
func TestDriversTwice(t *testing.T) {
	for _, w := range append(worlds(t), yard(t, fleet, fleet)) {
		for i := range w.drivers {
			for j := range w.drivers {
				if i == j {
					continue
				}
				other := copied(w)
				other.drivers[i].Id = w.drivers[j].Id
				checkNotTogether(t, other)
				other.drivers[i] = w.drivers[j]
				checkNotTogether(t, other)
				other.plan = nil
				checkNotTogether(t, other)
			}
		}
	}
}

// P11.1: orders that are not known: one that is not right, at each place
func TestOrderWrong(t *testing.T) {
	for _, w := range worlds(t) {
		for i := range w.orders {
			for _, turn := range wrongOrders() {
				other := w
				other.orders = slices.Clone(w.orders)
				turn(&other.orders[i])
				checkNotTogether(t, other)
				other.drivers, other.plan = nil, nil
				checkNotTogether(t, other)
			}
		}
	}
}

// P11.1: orders that are not known: two of one Id, and too many
func TestOrdersNotKnown(t *testing.T) {
	for _, w := range worlds(t) {
		for i := range w.orders {
			for j := range w.orders {
				if i != j {
					other := copied(w)
					other.orders[i].Id = w.orders[j].Id
					checkNotTogether(t, other)
				}
			}
		}
	}
	for _, n := range []int{most + 1, most + 2, 2 * most, 256, 256 + 1} {
		w := yard(t, 1, n)
		w.plan = nil
		checkNotTogether(t, w)
		w.drivers = nil
		checkNotTogether(t, w)
		w = yard(t, 1, n)
		w.drivers[0].Room = biggest
		w.plan = api.Plan{drive(10, p(1), q(1))}
		checkNotTogether(t, w)
	}
}

// P11.1: plans that are not right
func TestPlanWrong(t *testing.T) {
	for _, a := range wrongPlans(t) {
		w := town(t)
		w.plan = a
		checkNotTogether(t, w)
		w.orders = nil
		checkNotTogether(t, w)
		w.drivers = nil
		checkNotTogether(t, w)
	}
}

// P11.1: MaxDrivers routes, one of them without a driver, and one more
func TestMostRoutes(t *testing.T) {
	w := yard(t, fleet, most)
	check(t, w)
	for i := range w.drivers {
		one := copied(w)
		one.drivers = slices.Delete(one.drivers, i, i+1)
		check(t, one, trouble(10*(i+1), 0, api.ErrNone))
		one = copied(w)
		one.drivers[i].Id = highest
		one.plan = append(one.plan, drive(highest))
		checkNotTogether(t, one)
	}
	w.plan = append(w.plan, drive(10*fleet+1))
	checkNotTogether(t, w)
	w.plan[fleet].Driver = highest
	checkNotTogether(t, w)
}

// P11.1: where several of them are wrong, one ErrArg is told all the same.
func TestSeveralWrong(t *testing.T) {
	wrong := []func(w *world){
		func(w *world) { w.m = nil },
		func(w *world) { w.drivers[1].Room = 0 },
		func(w *world) { w.drivers[2].Id = w.drivers[0].Id },
		func(w *world) { w.orders[1].Size = 0 },
		func(w *world) { w.orders[2].Id = w.orders[0].Id },
		func(w *world) { w.plan[3].Served = 3 },
		func(w *world) { w.plan[2].Driver = 3 },
	}
	for _, first := range wrong {
		for _, second := range wrong {
			w := town(t)
			first(&w)
			second(&w)
			checkNotTogether(t, w)
		}
	}
}

// P11.1: how much of a route is done makes no difference, and neither does whether its driver is retired.
func TestServed(t *testing.T) {
	for _, w := range []world{town(t), bad(t)} {
		want := audited(t, w)
		for k := range w.plan {
			for n := range len(w.plan[k].Stops) + 1 {
				w.plan[k].Served = n
				check(t, w, want...)
				for i := range w.drivers {
					w.drivers[i].Retired = !w.drivers[i].Retired
					check(t, w, want...)
				}
			}
		}
	}
}
