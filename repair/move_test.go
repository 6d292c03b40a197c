package repair_test

import (
	"testing"

	"dray/api"
)

// pair is a world of three places with the drivers 4 and 5 and an order that costs a on the route of 4 and b on that of 5,
// and stands on one of the two.
func pair(t *testing.T, a, b, on int) world {
	t.Helper()
	w := world{
		m:       made(t, 3, 0, 50, a, 50, 0, b, 50, 50, 0),
		drivers: []api.Driver{idler(5, 1), idler(4, 0)},
		orders:  []api.Order{errand(7, 2, 2)},
	}
	w.plan = onRoute(on)
	return w
}

// onRoute returns the plan of a pair with the order on that route.
func onRoute(on int) api.Plan {
	a := api.Plan{drive(4), drive(5)}
	a[on-4].Stops = []api.Stop{p(7), q(7)}
	return a
}

// P13.2: an order that costs the same elsewhere stays, and one that costs less by one moves, whichever route comes first.
func TestCheaperByOne(t *testing.T) {
	for _, a := range []int{0, 1, 8, 9, 10} {
		for _, b := range []int{0, 1, 8, 9, 10} {
			w := pair(t, a, b, 4)
			if b < a {
				climb(t, w, 2, rung{2, onRoute(5)})
				climbAll(t, w, 4, []int{0, 2}, rung{2, onRoute(5)})
			} else {
				climb(t, w, 2)
				climbAll(t, w, 2, []int{0})
			}
			w = pair(t, a, b, 5)
			if a < b {
				climb(t, w, 2, rung{1, onRoute(4)})
				climbAll(t, w, 4, []int{0, 2}, rung{1, onRoute(4)})
			} else {
				climb(t, w, 2)
				climbAll(t, w, 2, []int{0})
			}
		}
	}
}

// P13.2: on its own route, too, an order stays where it is if all other positions cost the same.
func TestSameOnOneRoute(t *testing.T) {
	for _, stops := range [][]api.Stop{
		{p(1), q(1), p(2), q(2), p(3), q(3)}, {p(3), p(1), q(1), p(2), q(2), q(3)}, {p(2), p(3), q(3), p(1), q(2), q(1)},
	} {
		w := yards(t, 3, 0)
		w.plan[0].Stops = stops
		climb(t, w, 45)
		climbAll(t, w, 45, []int{0})
	}
}

// P13.2: an order moves off the route of a Retired driver where that is cheaper, and none moves there; without another
// driver no place is found for it, and it stays.
func TestRetired(t *testing.T) {
	retired := func(w world, ids ...int) world {
		for _, id := range ids {
			w.driver(id).Retired = true
		}
		return w
	}
	for _, b := range []int{8, 9, 10} {
		// From the route of 4 to that of 5, which alone is asked
		w := retired(pair(t, 9, b, 4), 4)
		if b < 9 {
			climb(t, w, 1, rung{1, onRoute(5)})
			climbAll(t, w, 2, []int{0, 1}, rung{1, onRoute(5)})
		} else {
			climb(t, w, 1)
			climbAll(t, w, 1, []int{0})
		}
		// Not from the route of 4 to that of 5, nor from there to nowhere
		for _, on := range []int{4, 5} {
			climb(t, retired(pair(t, 9, b, on), 4, 5), 0)
			climbAll(t, retired(pair(t, 9, b, on), 4, 5), 0, []int{0})
			one := retired(pair(t, 9, b, on), on)
			one.plan = one.plan[on-4 : on-3]
			climb(t, one, 0)
			climbAll(t, one, 0, []int{0})
		}
		climb(t, retired(pair(t, 9, b, 4), 5), 1)
		climbAll(t, retired(pair(t, 9, b, 4), 5), 1, []int{0})
	}
}

// P13.2: an order for which there is no place but on the route of its Retired driver, where others find places
func TestNoOtherPlace(t *testing.T) {
	w := lane(t)
	gone := idler(2, 3)
	gone.Retired = true
	w.drivers = append(w.drivers, gone)
	w.orders = append(w.orders, errand(9, 3, 3), errand(8, 3, 3))
	w.order(8).Size = 9
	w.plan = append(api.Plan{drive(2, p(8), q(8), p(9), q(9))}, w.plan...)
	want := api.Plan{w.plan[0], drive(4, p(2), p(1), q(2), q(1))}
	// 15 positions on the route of 4 for each of 8 and 9, whether or not they fit; they cost nothing more where they are.
	climb(t, w, 12+30, rung{2, api.Plan{w.plan[0], drive(4, p(1), p(2), q(1), q(2))}},
		rung{3, api.Plan{w.plan[0], drive(4, p(1), p(2), q(2), q(1))}},
		rung{4, api.Plan{w.plan[0], drive(4, p(2), p(1), q(1), q(2))}}, rung{5, want})
	if a := mend(t, w, 1000); a.steps != 84 || a.passes != 2 || !same(a.plan, want) {
		t.Fatalf("Repair(%+v) = %v", w, a)
	}
	w.order(8).Pick.To = 9
	w.driver(2).From = 9
	if a := mend(t, w, 1000); a.steps != 84 || a.passes != 2 || !same(a.plan, want) {
		t.Fatalf("Repair(%+v) = %v", w, a)
	}
}

// shortcut is a world where the way from 0 to 1 is 50, and over 2 it is 2: 4 is at home at 0, and 5, which is retired, at 2.
func shortcut(t *testing.T) world {
	t.Helper()
	gone := idler(5, 2)
	gone.Retired = true
	return world{
		m:       made(t, 3, 0, 50, 1, 50, 0, 1, 1, 1, 0),
		drivers: []api.Driver{idler(4, 0), gone},
		orders:  []api.Order{errand(1, 1, 1), errand(2, 2, 2)},
		plan:    api.Plan{drive(4, p(1), q(1)), drive(5, p(2), q(2))},
	}
}

// P13.2: what counts is the Total ahead of the order's removal: an order with a negative price moves where that is cheaper
// and stays where it is not.
func TestNegativePrice(t *testing.T) {
	w := shortcut(t)
	better := api.Plan{drive(4, p(2), q(2), p(1), q(1)), drive(5)}
	// For 1 there is one position, where it is; for 2 the second step, the first of its own, makes the way 2 and not 50.
	climb(t, w, 7, rung{2, better})
	climbAll(t, w, 7+12, []int{0, 7}, rung{2, better})
	checkTotal(t, w, 50)
	w.plan = better
	checkTotal(t, w, 2)
	climb(t, w, 12)
	climbAll(t, w, 12, []int{0})
}

// P13.2: where the plan has no certificate without an order, that order stays, without a step, and the others are looked at.
func TestNeededOrder(t *testing.T) {
	w := shortcut(t)
	w.drivers = w.drivers[:1]
	// Without 1, which is on the way from 0 to 1, order 2 would be late.
	w.orders = []api.Order{errand(9, 2, 2), errand(2, 1, 1), errand(1, 2, 2)}
	w.order(2).Pick.To = 40
	w.plan = api.Plan{drive(4, p(1), q(1), p(2), q(2))}
	climb(t, w, 6)
	climbAll(t, w, 6, []int{0})
	// With 9 behind it the way is 3, and the last of 15 positions for 2, behind 9, makes it 2. Then 9 is on the way as
	// well, so the second pass looks for places for each of the three.
	w.plan[0].Stops = append(w.plan[0].Stops, p(9), q(9))
	better := rung{15, api.Plan{drive(4, p(1), q(1), p(9), q(9), p(2), q(2))}}
	climb(t, w, 30, better)
	climbAll(t, w, 75, []int{0, 30}, better)
	// By the same Ids, the order that is needed is the last one.
	w.order(1).Id, w.order(9).Id = 9, 1
	w.plan = api.Plan{drive(4, p(9), q(9), p(2), q(2))}
	climb(t, w, 6)
	climbAll(t, w, 6, []int{0})
}

// long is a world of two places where 10 has as many stops as can be. All orders are at its home, but for that of the Id,
// which comes last and is at the home of 20.
func long(t *testing.T, id int) world {
	t.Helper()
	w := world{m: line(t, 2), plan: api.Plan{drive(10), drive(20)}}
	w.drivers = []api.Driver{{Id: 10, Room: 2, Window: window(0, 10)}, {Id: 20, Room: 2, Home: 1, Window: window(0, 10)}}
	for n := 1; n <= most; n++ {
		if n != id {
			w.orders = append(w.orders, errand(n, 0, 0))
			w.plan[0].Stops = append(w.plan[0].Stops, p(n), q(n))
		}
	}
	w.orders = append(w.orders, errand(id, 1, 1))
	w.plan[0].Stops = append(w.plan[0].Stops, p(id), q(id))
	return w
}

// P13.2 and P13.3: a route of MaxStops stops, and a search that takes more than MaxBudget steps
func TestLongRoute(t *testing.T) {
	w := long(t, 1)
	better := copied(w).plan
	better[0].Stops, better[1].Stops = better[0].Stops[:crowd-2], []api.Stop{p(1), q(1)}
	checkTotal(t, w, 10)
	// Behind what is left on the first route there are 3160 positions, then there is one on the second route.
	checkPass(t, w, 3160, answer{w.plan, 3160, 1, api.OK})
	checkPass(t, w, 3161, answer{better, 3161, 1, api.OK})
	checkRepair(t, w, 3160, answer{w.plan, 3160, 1, api.OK})
	checkRepair(t, w, 3161, answer{better, 3161, 1, api.OK})
	// For each of the others there are 3003 and 6 more; the oracle is not asked, since it would take as long again.
	if a := mended(w, budgets); !a.is(answer{better, budgets, 1, api.OK}) {
		t.Fatalf("Repair(%+v) = %v", w, a)
	}
	// As the last one it is not reached: ahead of it there are 39 searches of 3161 steps.
	w = long(t, most)
	if a := passed(w, budgets); !a.is(answer{w.plan, budgets, 1, api.OK}) {
		t.Fatalf("Pass(%+v) = %v", w, a)
	}
}
