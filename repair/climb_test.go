package repair_test

import (
	"slices"
	"testing"

	"dray/api"
)

// rung is the plan that there is with budgets from at on, up to the next rung.
type rung struct {
	at   int
	plan api.Plan
}

// reached returns the plan of the last rung that the budget is enough for.
func reached(rungs []rung, budget int) api.Plan {
	var a api.Plan
	for _, r := range rungs {
		if r.at <= budget {
			a = r.plan
		}
	}
	return a
}

// around returns the budgets from 0 to a few more than all, and some up to the greatest.
func around(all int) []int {
	l := []int{2*all + 9, 1000, budgets - 1, budgets}
	for budget := range all + 4 {
		l = append(l, budget)
	}
	return l
}

// climb holds what Pass is to return with each budget: at most all steps, and the plan of a rung, of which the first is
// what was handed in.
func climb(t *testing.T, w world, all int, rungs ...rung) {
	t.Helper()
	rungs = append([]rung{{0, w.plan}}, rungs...)
	for _, budget := range around(all) {
		checkPass(t, w, budget, answer{reached(rungs, budget), min(budget, all), 1, api.OK})
	}
	for _, budget := range wrongBudgets() {
		checkPass(t, w, budget, refused())
	}
}

// climbAll holds what Repair is to return with each budget: at most all steps, as many passes as begin ahead of the
// budget's end, and the plan of a rung.
func climbAll(t *testing.T, w world, all int, begins []int, rungs ...rung) {
	t.Helper()
	rungs = append([]rung{{0, w.plan}}, rungs...)
	for _, budget := range around(all) {
		passes := 0
		for _, at := range begins {
			if at < budget {
				passes++
			}
		}
		checkRepair(t, w, budget, answer{reached(rungs, budget), min(budget, all), passes, api.OK})
	}
	for _, budget := range wrongBudgets() {
		checkRepair(t, w, budget, refused())
	}
}

// on returns a rung with these stops on the lane.
func on(at, served int, stops ...api.Stop) rung {
	return rung{at, api.Plan{{Driver: 4, Served: served, Stops: stops}}}
}

// P13.2 and P13.3: the chapter's example with each budget: on the route of 5, the third step of the search for o finds it.
func TestClimbExample(t *testing.T) {
	w := example(t)
	better := rung{3, api.Plan{drive(4), drive(5, p(1), p(2), q(1), q(2))}}
	climb(t, w, 14, better)
	climbAll(t, w, 28, []int{0, 14}, better)
}

// P13.2 and P13.3: each position of order 1 on the lane is cheaper than the one ahead of it, 80, 60, 50, 40 and 30, but for
// the last, 50; so a budget that ends in the midst of that search leads to another plan. Then nothing is cheaper.
func TestClimbLane(t *testing.T) {
	w := lane(t)
	rungs := []rung{
		on(2, 0, p(1), p(2), q(1), q(2)), on(3, 0, p(1), p(2), q(2), q(1)),
		on(4, 0, p(2), p(1), q(1), q(2)), on(5, 0, p(2), p(1), q(2), q(1)),
	}
	checkTotal(t, w, 80)
	for i, want := range []int{60, 50, 40, 30} {
		w.plan = rungs[i].plan
		checkTotal(t, w, want)
	}
	climb(t, w, 12)
	climbAll(t, w, 12, []int{0})
	climb(t, lane(t), 12, rungs...)
	climbAll(t, lane(t), 24, []int{0, 12}, rungs...)
}

// P13.2: what is done, and an order whose pickup alone is done, stay; such an order takes no steps.
func TestBegun(t *testing.T) {
	w := lane(t)
	// With both stops of 2 ahead of the delivery of 1 it is 50, with one of them 60, and with none 80, as it was.
	w.plan[0].Served = 1
	between := on(1, 1, p(1), p(2), q(2), q(1))
	climb(t, w, 3, between)
	climbAll(t, w, 6, []int{0, 3}, between)
	for served, steps := range map[int]int{2: 1, 3: 0, 4: 0} {
		w.plan[0].Served = served
		climb(t, w, steps)
		climbAll(t, w, steps, []int{0})
	}
	// The delivery of 1 is last: 1 is begun, however many stops of 2 are done ahead of it.
	w = turned(t, p(1), p(2), q(2), q(1))
	for served, steps := range map[int]int{1: 3, 2: 0, 3: 0, 4: 0} {
		w.plan[0].Served = served
		climb(t, w, steps)
		climbAll(t, w, steps, []int{0})
	}
	// 2 is begun, and 1 is not: with both stops of 1 ahead of the delivery of 2 it is 40, as it was, and with one 30.
	w = turned(t, p(2), p(1), q(1), q(2))
	w.plan[0].Served = 1
	better := on(2, 1, p(2), p(1), q(2), q(1))
	climb(t, w, 3, better)
	climbAll(t, w, 6, []int{0, 3}, better)
}

// P13.2: what is done on one route does not keep the orders of another one.
func TestBegunElsewhere(t *testing.T) {
	w := lane(t)
	w.drivers = append(w.drivers, idler(3, 0), idler(9, 0))
	w.orders = append(w.orders, errand(8, 0, 0))
	for _, served := range []int{1, 2} {
		w.plan = api.Plan{{Driver: 3, Served: served, Stops: []api.Stop{p(8), q(8)}}, lane(t).plan[0]}
		if a := pass(t, w, 100); same(a.plan, w.plan) || !slices.Equal(a.plan[0].Stops[:served], w.plan[0].Stops[:served]) {
			t.Fatalf("Pass(%+v) = %v", w, a)
		}
		w.plan = api.Plan{{Driver: 3}, lane(t).plan[0], {Driver: 9, Served: served, Stops: []api.Stop{p(8), q(8)}}}
		if a := pass(t, w, 100); same(a.plan, w.plan) || !slices.Equal(a.plan[2].Stops[:served], w.plan[2].Stops[:served]) {
			t.Fatalf("Pass(%+v) = %v", w, a)
		}
	}
}

// P13.2: orders that stand in no route take no steps and get none, wherever they are listed, though they would cost nothing.
func TestUnplaced(t *testing.T) {
	w := lane(t)
	for _, id := range []int{3, 4, 40, highest - 1, highest} {
		w.orders = append(w.orders, errand(id, 0, 0))
	}
	for i := range w.orders {
		slices.Reverse(w.orders[i:])
		best := on(5, 0, p(2), p(1), q(2), q(1))
		climb(t, w, 12, on(2, 0, p(1), p(2), q(1), q(2)), on(3, 0, p(1), p(2), q(2), q(1)), on(4, 0, p(2), p(1), q(1), q(2)), best)
	}
	// Between the two that stand, and ahead of both
	w = lane(t)
	w.order(1).Id, w.order(2).Id = 20, 30
	w.plan[0].Stops = []api.Stop{p(20), q(20), p(30), q(30)}
	w.orders = append(w.orders, errand(25, 0, 0), errand(2, 0, 0))
	if a := pass(t, w, 100); a.steps != 12 || !slices.Equal(a.plan[0].Stops, []api.Stop{p(30), p(20), q(30), q(20)}) {
		t.Fatalf("Pass(%+v) = %v", w, a)
	}
	// Nothing stands.
	w.plan = api.Plan{drive(4)}
	climb(t, w, 0)
	climbAll(t, w, 0, []int{0})
}

// P13.3: no routes, no orders, no drivers: a pass changes nothing, without a step.
func TestNothing(t *testing.T) {
	for _, none := range []api.Plan{nil, {}} {
		w := lane(t)
		w.plan = none
		climb(t, w, 0)
		climbAll(t, w, 0, []int{0})
		w.orders = nil
		climb(t, w, 0)
		climbAll(t, w, 0, []int{0})
		w.drivers = nil
		climb(t, w, 0)
		climbAll(t, w, 0, []int{0})
	}
}

// P13.3: in a chain, the order next to the free driver moves, then that one's driver is free. By ascending Ids that
// takes one pass for each order and one that changes nothing.
func TestClimbChain(t *testing.T) {
	w := chain(t, 1, 2, 3)
	stands := func(at int, d1, d2, d3, d4 int) rung {
		r := rung{at: at}
		for k, id := range []int{d1, d2, d3, d4} {
			r.plan = append(r.plan, drive(10*(k+1)))
			if id > 0 {
				r.plan[k].Stops = []api.Stop{p(id), q(id)}
			}
		}
		return r
	}
	// Without the order that is looked for, two routes have stops and two have none: 14 positions. Order 3 moves at its
	// last one; 2 moves behind 6 and 1 of its own; 1 behind 1 of its own.
	climb(t, w, 42, stands(42, 1, 2, 0, 3))
	climbAll(t, w, 168, []int{0, 42, 84, 126}, stands(42, 1, 2, 0, 3), stands(42+14+8, 1, 0, 2, 3), stands(84+2, 0, 1, 2, 3))
	// The other way round, all of them move in one pass.
	w = chain(t, 3, 2, 1)
	rungs := []rung{stands(14, 3, 2, 0, 1), stands(14+8, 3, 0, 2, 1), stands(28+2, 0, 3, 2, 1)}
	climb(t, w, 42, rungs...)
	climbAll(t, w, 84, []int{0, 42}, rungs...)
	// 3 is free to move when 1 and 2 have moved, which is in the second pass.
	w = chain(t, 3, 1, 2)
	climb(t, w, 42, stands(14+14, 3, 1, 0, 2))
	climbAll(t, w, 126, []int{0, 42, 84}, stands(28, 3, 1, 0, 2), stands(42+8, 3, 0, 1, 2), stands(42+28+2, 0, 3, 1, 2))
}

// P13.3: as many passes as there are orders in a chain, and one more
func TestLongChain(t *testing.T) {
	var rising, falling []int
	for n := 1; n < fleet; n++ {
		rising, falling = append(rising, n), append([]int{n}, falling...)
		// One route without stops is the one looked at first, another is free: the others have 6 positions each.
		each := n * (2 + 6*(n-1))
		for _, c := range []struct {
			w      world
			passes int
		}{{chain(t, rising...), n + 1}, {chain(t, falling...), 2}} {
			a := mend(t, c.w, budgets)
			if a.steps != c.passes*each || a.passes != c.passes {
				t.Fatalf("Repair(%+v) = %v, not %d steps in %d passes", c.w, a, c.passes*each, c.passes)
			}
			c.w.plan = a.plan
			checkTotal(t, c.w, 0)
		}
	}
}

// P13.2: orders are looked at by ascending Ids, however they are listed.
func TestListing(t *testing.T) {
	lists := [][]int{{0, 1, 2}, {0, 2, 1}, {1, 0, 2}, {1, 2, 0}, {2, 0, 1}, {2, 1, 0}}
	for _, ids := range [][]int{{1, 2, 3}, {1, 3, 2}, {2, 1, 3}, {2, 3, 1}, {3, 1, 2}, {3, 2, 1}, {70, 9, highest}, {highest, 1, 10}} {
		w := chain(t, ids...)
		for _, budget := range []int{0, 13, 14, 22, 28, 29, 30, 41, 42, 43, 64, 84, 86, 200, budgets} {
			first, all := pass(t, w, budget), mend(t, w, budget)
			for _, l := range lists {
				other := copied(w)
				for i, k := range l {
					other.orders[i] = w.orders[k]
				}
				for i, k := range l {
					other.drivers[i] = w.drivers[k]
				}
				checkPass(t, other, budget, first)
				checkRepair(t, other, budget, all)
			}
		}
	}
}
