package insert_test

import (
	"reflect"
	"slices"
	"testing"

	"dray/api"
	"dray/geo"
	"dray/insert"
)

// roomy returns a copy of l with more in the room behind it.
func roomy[T any](l []T, more ...T) []T {
	return slices.Concat(l, more)[:len(l)]
}

// handed returns w with room behind each of its lists, in which there is what would count.
func handed(w world) world {
	w.drivers = roomy(w.drivers, api.Driver{Id: 1, Room: 1}, api.Driver{Id: least})
	w.orders = roomy(w.orders, errand(highest, 0, 0), w.o, api.Order{Id: greatest})
	w.plan = roomy(w.plan, drive(highest, p(60)), drive(least))
	for k := range w.plan {
		w.plan[k].Stops = roomy(w.plan[k].Stops, q(w.o.Id), p(99), p(w.o.Id), q(w.o.Id))
	}
	return w
}

// whole returns w, in memory of its own, with the room behind each list as a part of it.
func whole(t *testing.T, w world) world {
	t.Helper()
	if w.m != nil {
		w.m = made(t, w.m.Places(), w.m.Times()...)
	}
	w.drivers, w.orders = slices.Clone(w.drivers[:cap(w.drivers)]), slices.Clone(w.orders[:cap(w.orders)])
	w.plan = slices.Clone(w.plan[:cap(w.plan)])
	for k, r := range w.plan {
		w.plan[k].Stops = slices.Clone(r.Stops[:cap(r.Stops)])
	}
	return w
}

// forWorlds hands on worlds of all kinds, with a budget each.
func forWorlds(t *testing.T, f func(w world, budget int)) {
	t.Helper()
	f(world{}, 1)
	f(world{m: made(t, 1, 0)}, 1)
	for _, w := range worlds(t) {
		for _, budget := range []int{-1, 0, 1, 3, 7, budgets} {
			f(w, budget)
		}
		w.m = nil
		f(w, 9)
	}
	for _, turn := range wrongOrders() {
		w := street(t)
		turn(&w.o)
		f(w, 9)
	}
	x := mixed(36)
	for range 1500 {
		w := x.any(t)
		f(w, x.budget(w))
	}
}

// R2 and R5: what is handed in to Cheapest stays, with the room behind it, and that is not read.
func TestCheapestArgumentsStay(t *testing.T) {
	forWorlds(t, func(w world, budget int) {
		// Cheapest is not called ahead of this, since it might have changed already what it is to leave as it is.
		want := cheapestThere(w, budget)
		w = handed(w)
		before := whole(t, w)
		s, steps, why := insert.Cheapest(w.m, w.drivers, w.orders, w.plan, w.o, budget)
		if a := (answer{s, steps, why}); a != want {
			t.Fatalf("with room behind the lists, Cheapest(%+v, %d) = %v, not %v", w, budget, a, want)
		}
		if now := whole(t, w); !reflect.DeepEqual(now, before) {
			t.Fatalf("the arguments are now %+v, not %+v", now, before)
		}
	})
}

// R2 and R5: so it is with what is handed in to Best, for each route.
func TestBestArgumentsStay(t *testing.T) {
	forWorlds(t, func(w world, budget int) {
		for k := range w.plan {
			// A driver for the route that is not there is the zero Driver.
			var d api.Driver
			if there := w.driver(w.plan[k].Driver); there != nil {
				d = *there
			}
			want := bestThere(job{m: w.m, d: d, orders: w.orders, r: w.plan[k], o: w.o}, budget)
			other := handed(w)
			before := whole(t, other)
			s, steps, why := insert.Best(other.m, d, other.orders, other.plan[k], other.o, budget)
			if a := (answer{s, steps, why}); a != want {
				t.Fatalf("with room behind the lists, Best(%+v, %d) = %v, not %v", other, budget, a, want)
			}
			if now := whole(t, other); !reflect.DeepEqual(now, before) {
				t.Fatalf("the arguments are now %+v, not %+v", now, before)
			}
		}
	})
}

// R5: what is needed and stands in the room behind a list only is not there.
func TestRoomIsNotRead(t *testing.T) {
	w := street(t)
	far, near, here := spot(2, 0, 0, 40), spot(2, 1, 2, 10), spot(5, 0, 0, 0)
	for n := range w.plan {
		other := w
		other.plan = w.plan[:n]
		checkCheapest(t, other, 9, [...]answer{nowhere(0), found(near, 6), found(here, 9)}[n])
		other = w
		other.drivers = w.drivers[:n]
		checkCheapest(t, other, 9, refused(api.ErrArg))
		other = w
		other.orders = w.orders[:min(n, 1)]
		checkCheapest(t, other, 9, refused(api.ErrArg))
	}
	// Behind the orders there is the one to be put in, and behind the stops there are stops.
	j := w.job(0)
	j.orders = roomy(j.orders, j.o, j.o)
	checkBest(t, j, 3, found(far, 3))
	j.r.Stops = j.r.Stops[:0]
	checkBest(t, j, 9, found(far, 1))
	j.r.Served = 1
	checkBest(t, j, 9, refused(api.ErrArg))
	j.r.Stops, j.r.Served = w.plan[0].Stops[:1], 0
	checkBest(t, j, 9, refused(api.ErrArg))
}

// R2: nothing is kept from call to call, so what is answered goes with what is asked.
func TestNothingIsKept(t *testing.T) {
	w := copiedWorld(street(t))
	first := cheapest(t, w, 20)
	asks := func() {
		t.Helper()
		cheapest(t, w, 20)
		for k := range w.plan {
			if w.driver(w.plan[k].Driver) != nil {
				best(t, w.job(k), 20)
			}
		}
	}
	for k := range w.plan {
		for i, s := range w.plan[k].Stops {
			w.plan[k].Stops[i] = p(98)
			asks()
			w.plan[k].Stops[i] = s
			w.plan[k].Served = i + 1
			asks()
			w.plan[k].Served = 0
		}
		w.plan[k].Driver += 100
		asks()
		w.plan[k].Driver -= 100
	}
	for i, d := range w.drivers {
		w.drivers[i].Home = (d.Home + 1) % 4
		asks()
		w.drivers[i].Retired = true
		asks()
		w.drivers[i].To = 20
		asks()
		w.drivers[i] = d
	}
	for i, o := range w.orders {
		w.orders[i].Pick.Place = (o.Pick.Place + 1) % 4
		asks()
		w.orders[i].Id += 100
		asks()
		w.orders[i] = o
	}
	m := w.m
	w.m = made(t, 4, make([]int, 16)...)
	asks()
	w.m = m
	checkCheapest(t, w, 20, first)
}

// R1: nothing but zero values, nothing, and lists far beyond the bounds
func TestAnything(t *testing.T) {
	const far = 1 << 16
	m := made(t, 1, 0)
	d, o := api.Driver{Id: 1, Room: 1}, errand(1, 0, 0)
	for _, budget := range []int{0, 1, budgets, least, greatest} {
		checkBest(t, job{}, budget, refused(api.ErrArg))
		checkBest(t, job{m: m}, budget, refused(api.ErrArg))
		checkBest(t, job{m: m, d: d}, budget, refused(api.ErrArg))
		checkBest(t, job{m: m, d: d, r: drive(1)}, budget, refused(api.ErrArg))
		checkBest(t, job{m: &geo.Map{}, d: d, r: drive(1), o: o}, budget, refused(api.ErrArg))
		checkCheapest(t, world{}, budget, refused(api.ErrArg))
		checkCheapest(t, world{m: m}, budget, refused(api.ErrArg))
		checkCheapest(t, world{m: &geo.Map{}, o: o}, budget, refused(api.ErrArg))
	}
	many := make([]api.Stop, far)
	for i := range many {
		many[i] = p(i + 1)
	}
	for _, j := range []job{
		{orders: make([]api.Order, far)}, {orders: slices.Repeat([]api.Order{errand(2, 0, 0)}, far)},
		{r: drive(1, make([]api.Stop, far)...)}, {r: drive(1, many...)},
	} {
		j.m, j.d, j.r.Driver, j.o = m, d, 1, o
		if s, n, why := insert.Best(j.m, j.d, j.orders, j.r, j.o, 9); (answer{s, n, why}) != refused(api.ErrArg) {
			t.Fatalf("Best with long lists = %v, %d, %d", s, n, why)
		}
		for _, w := range []world{
			{drivers: []api.Driver{d}}, {drivers: make([]api.Driver, far)}, {drivers: slices.Repeat([]api.Driver{d}, far)},
		} {
			for _, plan := range []api.Plan{nil, {j.r}, make(api.Plan, far), slices.Repeat(api.Plan{j.r}, 20)} {
				s, n, why := insert.Cheapest(m, w.drivers, j.orders, plan, o, 9)
				want := refused(api.ErrArg)
				if len(w.drivers) == 1 && len(plan) == 0 && len(j.orders) == 0 {
					want = nowhere(0)
				}
				if (answer{s, n, why}) != want {
					t.Fatalf("Cheapest with long lists = %v, %d, %d", s, n, why)
				}
			}
		}
	}
	checkBest(t, job{m: m, d: d, r: drive(1), o: o}, 9, found(spot(1, 0, 0, 0), 1))
}
