package plan_test

import (
	"slices"
	"testing"

	"dray/api"
	"dray/plan"
)

// begun reports whether a stop of the order is done.
func begun(a api.Plan, order int) bool {
	for _, r := range a {
		for at, s := range r.Stops {
			if at < r.Served && s.Order == order {
				return true
			}
		}
	}
	return false
}

// withoutThere is the part of P9.3 about Without by its words.
func withoutThere(a api.Plan, orders []int) api.Plan {
	var l api.Plan
	for _, r := range a {
		var stops []api.Stop
		for _, s := range r.Stops {
			if !slices.Contains(orders, s.Order) || begun(a, s.Order) {
				stops = append(stops, s)
			}
		}
		l = append(l, route(r.Driver, r.Served, stops...))
	}
	return l
}

// without calls Without and holds it against P9.3, that what is handed in stays, with the room behind it, and that what is
// answered is new.
func without(t *testing.T, a api.Plan, orders ...int) api.Plan {
	t.Helper()
	handed, ids := roomy(a), append(make([]int, 0, len(orders)+2), orders...)
	copy(ids[len(ids):cap(ids)], []int{1, 2})
	before, idsBefore := clone(handed), slices.Clone(ids[:cap(ids)])
	got := plan.Without(handed, ids...)
	answer := plain(got)
	if want := withoutThere(a, orders); !same(answer, want) {
		t.Fatalf("Without(%v, %v) = %v, not %v", a, orders, answer, want)
	}
	checkStayed(t, handed, before)
	if !slices.Equal(ids[:cap(ids)], idsBefore) {
		t.Fatalf("the orders and the room behind them are now %v, not %v", ids[:cap(ids)], idsBefore)
	}
	checkNew(t, handed, got, plan.Without(handed, ids...))
	return answer
}

// checkWithout holds Without of the orders, in the order given and backwards, against what is wanted.
func checkWithout(t *testing.T, a, want api.Plan, orders ...int) {
	t.Helper()
	for range 2 {
		if got := without(t, a, orders...); !same(got, want) {
			t.Errorf("Without(%v, %v) = %v, not %v", a, orders, got, want)
		}
		orders = slices.Clone(orders)
		slices.Reverse(orders)
	}
}

// P9.3: no orders, and orders that are not there
func TestWithoutNone(t *testing.T) {
	for _, a := range []api.Plan{nil, {}, {route(4, 0)}, {{}, {}}, example(), three(), full()} {
		checkWithout(t, a, a)
		checkWithout(t, a, a, []int{}...)
		checkWithout(t, a, a, beyond()...)
		checkWithout(t, a, a, 999, 999, highest-1, -1, -6, 1<<32+1)
	}
	for _, a := range slices.Concat(wrongPlans(), crowded()) {
		checkWithout(t, a, a)
		checkWithout(t, a, a, 555, -7)
	}
}

// P9.3: orders that stand on one route or on several, begun or not
func TestWithout(t *testing.T) {
	a := three()
	// Of these, 1 and 6 are begun.
	left := func(first, last []api.Stop) api.Plan {
		return api.Plan{route(2, 1, first...), route(5, 0), route(9, 2, last...)}
	}
	checkWithout(t, a, left([]api.Stop{p(6), q(6)}, a[2].Stops), 3)
	checkWithout(t, a, left(a[0].Stops, []api.Stop{p(1), q(1), p(highest), q(highest)}), 70)
	checkWithout(t, a, left(a[0].Stops, []api.Stop{p(1), q(1), q(70), p(70)}), highest)
	checkWithout(t, a, left(a[0].Stops, []api.Stop{p(1), q(1)}), highest, 70)
	checkWithout(t, a, left([]api.Stop{p(6), q(6)}, []api.Stop{p(1), q(1)}), 1, 3, 6, 70, highest)
	checkWithout(t, a, left([]api.Stop{p(6), q(6)}, []api.Stop{p(1), q(1)}), 70, 3, 3, 999, 70, highest, 0, 1, 3)
	checkWithout(t, a, a, 1, 6)
	checkWithout(t, a, a, 1, 1, 6)
	a[0].Served, a[2].Served = 0, 0
	checkWithout(t, a, api.Plan{route(2, 0), route(5, 0), route(9, 0)}, 1, 3, 6, 70, highest)
	a[0].Served, a[2].Served = 4, 6
	checkWithout(t, a, a, 1, 3, 6, 70, highest)
}

// P9.3: an order that is begun on one route keeps its stops on all of them, ahead of that one and behind it.
func TestWithoutSeveralRoutes(t *testing.T) {
	for served := range 3 {
		a := api.Plan{route(1, 0, q(5), p(8)), route(2, served, p(7), p(5)), route(3, 0, q(7), q(8), p(5))}
		want := a
		switch served {
		case 0:
			want = api.Plan{route(1, 0, p(8)), route(2, 0), route(3, 0, q(8))}
		case 1:
			want = api.Plan{route(1, 0, p(8)), route(2, 1, p(7)), route(3, 0, q(7), q(8))}
		}
		checkWithout(t, a, want, 5, 7)
		checkWithout(t, a, want, 7, 5, 7, 5)
		if served < 2 {
			checkWithout(t, a[:1], api.Plan{route(1, 0, p(8))}, 5)
		}
	}
	a := api.Plan{route(1, 0, q(5)), route(2, 0, p(4), q(4)), route(3, 1, p(5))}
	checkWithout(t, a, api.Plan{route(1, 0, q(5)), route(2, 0), route(3, 1, p(5))}, 4, 5)
	slices.Reverse(a)
	checkWithout(t, a, api.Plan{route(3, 1, p(5)), route(2, 0), route(1, 0, q(5))}, 4, 5)
}

// P9.3: each order of a plan with as many stops as there may be, alone and with all others
func TestWithoutFull(t *testing.T) {
	a := full()
	orders := ordersThere(a)
	for i, id := range orders {
		if got := without(t, a, id); begun(a, id) != same(got, a) {
			t.Fatalf("without %d: %v", id, got)
		}
		if i%20 == 0 {
			without(t, a, orders[:i]...)
			without(t, a, orders[i:]...)
		}
	}
	got := without(t, a, orders...)
	for i, r := range got {
		if (len(r.Stops) == 0) != (a[i].Served == 0) {
			t.Errorf("route %d of %v", i, got)
		}
	}
}

// P9.3: plans that are not right: Served beyond its bounds, stops that occur several times, Drivers and Orders of any number
func TestWithoutWrong(t *testing.T) {
	for _, served := range []int{-1, -2, least, least + 1, -1 << 32, 3, 4, 1 << 32, greatest - 1, greatest} {
		a := api.Plan{route(2, served, p(1), p(2), q(1)), route(1, 0, q(2), p(3))}
		want := api.Plan{route(2, served), route(1, 0)}
		if served > 0 {
			want = api.Plan{a[0], route(1, 0, q(2))}
		}
		checkWithout(t, a, want, 1, 2, 3)
	}
	for _, id := range beyond() {
		a := api.Plan{route(id, 1, p(3), p(id), q(3)), route(id, 0, q(id), q(id), p(4))}
		checkWithout(t, a, api.Plan{route(id, 1, p(3), q(3)), route(id, 0, p(4))}, id)
		a[0].Served = 2
		checkWithout(t, a, a, id)
	}
	checkWithout(t, api.Plan{route(1, 0, p(5), p(6), p(5), q(5), p(5))}, api.Plan{route(1, 0, p(6))}, 5)
	for _, a := range slices.Concat(wrongPlans(), crowded()) {
		orders := ordersThere(a)
		for _, id := range orders[:min(len(orders), 20)] {
			without(t, a, id)
		}
		without(t, a, orders...)
	}
}

// P9.3: all plans of two routes with up to two stops each, with all orders taken out, and each Served, right or not
func TestWithoutFewStops(t *testing.T) {
	for _, first := range fewStops(2) {
		for _, second := range fewStops(2) {
			for served := -1; served <= 3; served++ {
				for other := range 3 {
					a := api.Plan{route(3, served, first...), route(4, other, second...)}
					for _, orders := range [][]int{{1}, {2}, {1, 2}, {2, 2, 3}} {
						without(t, a, orders...)
					}
				}
			}
		}
	}
}
