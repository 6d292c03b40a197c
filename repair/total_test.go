package repair_test

import (
	"slices"
	"testing"

	"dray/api"
)

// town is a world of a row of five places with four routes: of 2, of 3, which is retired, of 5, which has no stops, and of 8;
// they cost 30, 40, 0 and 20. Driver 9 has no route, and order 7 stands in none.
func town(t *testing.T) world {
	t.Helper()
	gone := idler(3, 4)
	gone.Retired = true
	return world{
		m:       line(t, 5),
		drivers: []api.Driver{idler(9, 1), idler(8, 2), idler(5, 0), gone, idler(2, 0)},
		orders:  []api.Order{errand(6, 1, 3), errand(4, 3, 1), errand(7, 2, 2), errand(1, 2, 4), errand(5, 2, 0)},
		plan: api.Plan{
			drive(2, p(6), q(6)), drive(3, p(4), p(5), q(4), q(5)), drive(5), drive(8, p(1), q(1)),
		},
	}
}

// P13.1: the sum of the routes' costs, worked out by hand
func TestTotal(t *testing.T) {
	w := town(t)
	checkTotal(t, w, 90)
	for k, want := range []int{30, 40, 0, 20} {
		one, less := w, w
		one.plan = w.plan[k : k+1]
		checkTotal(t, one, want)
		less.plan = slices.Delete(slices.Clone(w.plan), k, k+1)
		checkTotal(t, less, 90-want)
	}
	checkTotal(t, lane(t), 80)
	checkTotal(t, chain(t, 1, 2, 3), 30)
	checkTotal(t, yards(t, most, most), 0)
	checkTotal(t, yards(t, most, 5, 5, 5, 5, 5, 5, 5, 5), 0)
}

// P13.1: waiting and service cost nothing, and the way home is none.
func TestTotalIsWays(t *testing.T) {
	w := world{m: made(t, 2, 0, 5, 7, 0), drivers: []api.Driver{idler(4, 0)}, orders: []api.Order{errand(1, 1, 0)}}
	w.plan = api.Plan{drive(4, p(1), q(1))}
	checkTotal(t, w, 12)
	w.orders[0].Pick = site(1, 1000, 2000, 300)
	w.orders[0].Drop = site(0, 5000, 9000, 500)
	checkTotal(t, w, 12)
	w.drivers[0].From = 1500
	checkTotal(t, w, 12)
	w.drivers[0].Home = 1
	checkTotal(t, w, 7)
}

// P13.1: no routes, no drivers, no orders; routes without stops
func TestTotalOfNothing(t *testing.T) {
	w := town(t)
	for _, none := range []api.Plan{nil, {}} {
		other := w
		other.plan = none
		checkTotal(t, other, 0)
		other.drivers = nil
		checkTotal(t, other, 0)
		other.orders = nil
		checkTotal(t, other, 0)
		checkTotal(t, world{m: w.m, plan: none}, 0)
	}
	w.plan = api.Plan{drive(2), drive(3), drive(5), drive(8), drive(9)}
	checkTotal(t, w, 0)
	w.orders = nil
	checkTotal(t, w, 0)
	w.plan[1].Stops, w.plan[3].Stops = []api.Stop{}, []api.Stop{}
	checkTotal(t, w, 0)
}

// P13.1: whether drivers are retired, how much is done, and how drivers and orders are listed makes no difference.
func TestTotalStays(t *testing.T) {
	w := town(t)
	for i := range w.drivers {
		w.drivers[i].Retired = !w.drivers[i].Retired
		checkTotal(t, w, 90)
		for j := range w.drivers {
			w.drivers[i], w.drivers[j] = w.drivers[j], w.drivers[i]
			w.orders[i], w.orders[j] = w.orders[j], w.orders[i]
			checkTotal(t, w, 90)
		}
	}
	for k, r := range w.plan {
		for n := range len(r.Stops) + 1 {
			w.plan[k].Served = n
			checkTotal(t, w, 90)
		}
	}
}

// P13.1: as many routes, orders and stops, and ways as long as there may be
func TestTotalAtBounds(t *testing.T) {
	w := world{m: made(t, 2, 0, longest, longest, 0)}
	for id := 1; id <= fleet; id++ {
		w.drivers = append(w.drivers, idler(highest-fleet+id, 0))
		o := errand(highest-2*id, 1, 1)
		w.orders = append(w.orders, o)
		w.plan = append(w.plan, drive(highest-fleet+id, p(o.Id), q(o.Id)))
	}
	checkTotal(t, w, fleet*longest)
	w.drivers[3].To--
	checkRefused(t, w)
	w.drivers[3].Home, w.orders[3].Pick.Place, w.orders[3].Drop.Place = 1, 0, 0
	checkRefused(t, w)
	w.drivers[3].To++
	checkTotal(t, w, fleet*longest)
}

// faulty returns plans for the town in which cert.Make finds a Fault on one route alone, one of each kind on each route that
// can have it.
func faulty(t *testing.T) []world {
	t.Helper()
	var l []world
	for k := range town(t).plan {
		add := func(turn func(w world, r *api.Route)) {
			w := copied(town(t))
			turn(w, &w.plan[k])
			l = append(l, w)
		}
		add(func(w world, r *api.Route) { w.driver(r.Driver).Id = 1 })
		add(func(w world, r *api.Route) { r.Stops = append(r.Stops, p(99)) })
		add(func(w world, r *api.Route) { r.Stops = append([]api.Stop{p(99), q(99)}, r.Stops...) })
		add(func(w world, r *api.Route) { r.Stops = append(r.Stops, p(7)) })
		add(func(w world, r *api.Route) { r.Stops = append(r.Stops, q(7)) })
		add(func(w world, r *api.Route) { r.Stops = append([]api.Stop{q(7), p(7)}, r.Stops...) })
		add(func(w world, r *api.Route) { w.order(7).Size, r.Stops = 10, append(r.Stops, p(7), q(7)) })
		add(func(w world, r *api.Route) {
			w.order(7).Pick.Window, r.Stops = window(0, 0), append(r.Stops, p(7), q(7))
		})
		if len(town(t).plan[k].Stops) == 0 {
			continue
		}
		add(func(w world, r *api.Route) { w.driver(r.Driver).To = wayThere(w, *r) - 1 })
		add(func(w world, r *api.Route) { w.order(r.Stops[0].Order).Id = 98 })
		add(func(w world, r *api.Route) { w.order(r.Stops[0].Order).Size = 10 })
		add(func(w world, r *api.Route) { w.order(r.Stops[0].Order).Drop.Service = longest })
		add(func(w world, r *api.Route) { r.Stops = r.Stops[1:] })
		add(func(w world, r *api.Route) { r.Stops = r.Stops[:len(r.Stops)-1] })
		add(func(w world, r *api.Route) { slices.Reverse(r.Stops) })
	}
	// The two stops of an order on two routes
	for k := range town(t).plan {
		for i := range town(t).plan {
			if i != k {
				w := copied(town(t))
				w.plan[i].Stops, w.plan[k].Stops = append(w.plan[i].Stops, p(7)), append(w.plan[k].Stops, q(7))
				l = append(l, w)
			}
		}
	}
	return l
}

// P13.1 to P13.3: a plan in which cert.Make finds a Fault
func TestPlanWithFault(t *testing.T) {
	for _, w := range faulty(t) {
		checkRefused(t, w)
		for i := range w.drivers {
			w.drivers[i].Retired = !w.drivers[i].Retired
		}
		checkRefused(t, w)
	}
}
