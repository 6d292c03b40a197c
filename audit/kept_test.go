package audit_test

import (
	"slices"
	"testing"

	"dray/api"
	"dray/audit"
	"dray/plan"
)

// keptThere is P11.2 by its words, its conditions one by one.
func keptThere(old, next api.Plan) bool {
	if !plan.Right(old) || !plan.Right(next) {
		return false
	}
	before, after := map[int]api.Route{}, map[int]api.Route{}
	for _, r := range old {
		before[r.Driver] = r
	}
	for _, r := range next {
		after[r.Driver] = r
	}
	for driver := range before {
		if _, ok := after[driver]; !ok {
			return false
		}
	}
	for driver, r := range after {
		was, ok := before[driver]
		if r.Served != was.Served && ok || r.Served != 0 && !ok {
			return false
		}
		for i := range r.Served {
			if r.Stops[i] != was.Stops[i] {
				return false
			}
		}
	}
	return true
}

// checkKept holds that Kept answers want, as P11.2 does by its words.
func checkKept(t *testing.T, old, next api.Plan, want bool) {
	t.Helper()
	if there := keptThere(old, next); there != want {
		t.Fatalf("by the chapter's words, Kept(%v, %v) is %v, not %v", old, next, there, want)
	}
	if got := audit.Kept(old, next); got != want {
		t.Fatalf("Kept(%v, %v) = %v", old, next, got)
	}
}

// underway returns the town's plan with about half of each route done.
func underway(t *testing.T) api.Plan {
	t.Helper()
	a := copied(town(t)).plan
	for k, r := range a {
		a[k].Served = (len(r.Stops) + 1) / 2
	}
	return a
}

// with returns a with the route k changed.
func with(a api.Plan, k int, turn func(r *api.Route)) api.Plan {
	a = slices.Clone(a)
	a[k].Stops = slices.Clone(a[k].Stops)
	turn(&a[k])
	return a
}

// P11.2 and P11.3: a right plan is kept by itself and by a copy, whatever is done of it.
func TestKeptByItself(t *testing.T) {
	for _, a := range []api.Plan{nil, {}, underway(t), town(t).plan, bad(t).plan, yard(t, fleet, most).plan, yard(t, 1, most).plan} {
		checkKept(t, a, a, true)
		for k, r := range a {
			for n := range len(r.Stops) + 1 {
				b := with(a, k, func(r *api.Route) { r.Served = n })
				checkKept(t, b, b, true)
				checkKept(t, b, copied(world{plan: b}).plan, true)
			}
		}
	}
	checkKept(t, nil, api.Plan{}, true)
	checkKept(t, api.Plan{}, nil, true)
}

// P11.2 and P11.3: plans that are not right, on either side and on both
func TestKeptNotRight(t *testing.T) {
	w := town(t)
	for _, wrong := range wrongPlans(t) {
		checkKept(t, wrong, wrong, false)
		for _, a := range []api.Plan{nil, {}, w.plan, underway(t), {drive(3)}} {
			checkKept(t, a, wrong, false)
			checkKept(t, wrong, a, false)
		}
		// Neither does it help that what is wrong is there in both of them.
		for _, other := range wrongPlans(t)[:20] {
			checkKept(t, wrong, other, false)
		}
	}
}

// P11.2: stops that are done on one route and stand on another one too, which makes a plan wrong
func TestKeptTwice(t *testing.T) {
	a := api.Plan{{Driver: 1, Served: 2, Stops: []api.Stop{p(1), q(1)}}, drive(2)}
	checkKept(t, a, a, true)
	for _, s := range []api.Stop{p(1), q(1)} {
		b := with(a, 1, func(r *api.Route) { r.Stops = []api.Stop{s} })
		checkKept(t, a, b, false)
		checkKept(t, b, a, false)
		checkKept(t, b, b, false)
		c := with(a, 0, func(r *api.Route) { r.Stops = append(r.Stops, s) })
		checkKept(t, a, c, false)
		checkKept(t, c, a, false)
		checkKept(t, c, c, false)
	}
}

// P11.2: a Driver of old that next lacks, at each place; with or without stops, done or not
func TestKeptLacksDriver(t *testing.T) {
	for _, a := range []api.Plan{town(t).plan, underway(t), {drive(1)}, {drive(1), drive(2), drive(highest)}} {
		for k, r := range a {
			less := slices.Delete(slices.Clone(a), k, k+1)
			checkKept(t, a, less, false)
			// Another driver's route does not stand for it.
			for _, id := range []int{r.Driver + 1, r.Driver - 1} {
				b := with(a, k, func(r *api.Route) { r.Driver = id })
				if plan.Right(b) {
					checkKept(t, a, b, false)
				}
			}
			// The other way round, there is one more driver, of whom nothing is done.
			for n := range len(r.Stops) + 1 {
				more := with(a, k, func(r *api.Route) { r.Served = n })
				checkKept(t, less, more, n == 0)
			}
		}
		checkKept(t, a, nil, false)
	}
}

// P11.2: routes that old has not, at each place between those that it has: of none of them anything is done.
func TestKeptMoreDrivers(t *testing.T) {
	a := underway(t)
	for _, id := range []int{1, 2, 4, 6, 8, 11, 13, highest} {
		for served := range 3 {
			r := api.Route{Driver: id, Served: served, Stops: []api.Stop{p(70), q(70)}}
			i := slices.IndexFunc(a, func(r api.Route) bool { return r.Driver > id })
			if i < 0 {
				i = len(a)
			}
			b := slices.Insert(slices.Clone(a), i, r)
			checkKept(t, a, b, served == 0)
			checkKept(t, nil, b, false)
			checkKept(t, nil, api.Plan{r}, served == 0)
			checkKept(t, b, a, false)
			checkKept(t, b, b, true)
		}
	}
	// As many as there can be, and one more.
	full := yard(t, fleet, most).plan
	checkKept(t, nil, full, true)
	checkKept(t, full[:1], full, true)
	for k := range full {
		checkKept(t, nil, with(full, k, func(r *api.Route) { r.Served = 1 }), false)
		checkKept(t, nil, with(full, k, func(r *api.Route) { r.Served = len(r.Stops) }), false)
	}
	checkKept(t, full, append(slices.Clone(full), drive(highest)), false)
}

// P11.2: routes in another order are no right plan, and the place of a route in the plan does not count.
func TestKeptOtherOrder(t *testing.T) {
	a := underway(t)
	for i := range a {
		for j := range i {
			b := slices.Clone(a)
			b[i], b[j] = b[j], b[i]
			checkKept(t, a, b, false)
			checkKept(t, b, a, false)
			// With the numbers in their order again, the drivers have changed their routes.
			b[i].Driver, b[j].Driver = b[j].Driver, b[i].Driver
			checkKept(t, a, b, false)
			checkKept(t, b, a, false)
		}
	}
	b := append(api.Plan{drive(1, p(70)), drive(2, q(70))}, a...)
	checkKept(t, a, b, true)
}

// P11.2: as much is done in next as in old, on each route, neither one stop more nor one less.
func TestKeptServed(t *testing.T) {
	a := town(t).plan
	for k, r := range a {
		for n := range len(r.Stops) + 1 {
			for m := range len(r.Stops) + 1 {
				old := with(a, k, func(r *api.Route) { r.Served = n })
				next := with(a, k, func(r *api.Route) { r.Served = m })
				checkKept(t, old, next, n == m)
			}
			// On another route one is done as much less.
			for j := range a {
				if j != k && n > 0 && len(a[j].Stops) >= n {
					old := with(a, k, func(r *api.Route) { r.Served = n })
					next := with(a, j, func(r *api.Route) { r.Served = n })
					checkKept(t, old, next, false)
				}
			}
		}
	}
}

// forDone hands on each route of the town with any number of its stops done.
func forDone(t *testing.T, f func(a api.Plan, k, n int)) {
	t.Helper()
	a := town(t).plan
	for k, r := range a {
		for n := range len(r.Stops) + 1 {
			f(with(a, k, func(r *api.Route) { r.Served = n }), k, n)
		}
	}
}

// P11.2: a stop that is another one, of another order or of the same one; and two that change places
func TestKeptOtherStops(t *testing.T) {
	forDone(t, func(a api.Plan, k, n int) {
		for i, s := range a[k].Stops {
			for _, other := range []api.Stop{p(99), q(99), {Order: highest - s.Order, Drop: s.Drop}} {
				b := with(a, k, func(r *api.Route) { r.Stops[i] = other })
				checkKept(t, a, b, i >= n)
				checkKept(t, b, a, i >= n)
			}
			for j := range i {
				b := with(a, k, func(r *api.Route) { r.Stops[i], r.Stops[j] = r.Stops[j], r.Stops[i] })
				checkKept(t, a, b, j >= n)
			}
		}
	})
	// The pickup for the delivery, and the other way round.
	a := api.Plan{{Driver: 1, Served: 1, Stops: []api.Stop{p(1)}}}
	b := api.Plan{{Driver: 1, Served: 1, Stops: []api.Stop{q(1)}}}
	checkKept(t, a, b, false)
	checkKept(t, b, a, false)
	a[0].Served, b[0].Served = 0, 0
	checkKept(t, a, b, true)
	checkKept(t, b, a, true)
}

// P11.2: stops that go or come in, among those that are done, right behind them and further on
func TestKeptFewerAndMoreStops(t *testing.T) {
	forDone(t, func(a api.Plan, k, n int) {
		stops := a[k].Stops
		for i := range stops {
			b := with(a, k, func(r *api.Route) { r.Stops = slices.Delete(r.Stops, i, i+1) })
			checkKept(t, a, b, i >= n)
		}
		for i := range len(stops) + 1 {
			b := with(a, k, func(r *api.Route) { r.Stops = slices.Insert(r.Stops, i, q(70)) })
			checkKept(t, a, b, i >= n)
			checkKept(t, b, a, i >= n)
			b = with(a, k, func(r *api.Route) { r.Stops = r.Stops[:i] })
			checkKept(t, a, b, i >= n)
			b = with(a, k, func(r *api.Route) { r.Stops = append(r.Stops[:i], p(71), p(70)) })
			checkKept(t, a, b, i >= n)
		}
		// Of another route, all may change.
		for j := range a {
			if j != k {
				checkKept(t, a, with(a, j, func(r *api.Route) { r.Stops = nil }), true)
				checkKept(t, a, with(a, j, func(r *api.Route) { slices.Reverse(r.Stops) }), true)
			}
		}
	})
}

// P11.2: a stop that goes to another route; it may if it is not done, and not in among those that are done there.
func TestKeptOtherRoute(t *testing.T) {
	a := underway(t)
	for k, from := range a {
		for i, s := range from.Stops {
			less := with(a, k, func(r *api.Route) { r.Stops = slices.Delete(r.Stops, i, i+1) })
			for j, to := range a {
				for at := range len(to.Stops) + 1 {
					if j != k {
						b := with(less, j, func(r *api.Route) { r.Stops = slices.Insert(r.Stops, at, s) })
						checkKept(t, a, b, i >= from.Served && at >= to.Served)
					}
				}
			}
		}
	}
}

// P11.2: routes of MaxStops stops that are done up to the last but one differ in the last or in the first one.
func TestKeptMostStops(t *testing.T) {
	a := yard(t, 1, most).plan
	a[0].Served = crowd - 1
	first := with(a, 0, func(r *api.Route) { r.Stops[0] = p(99) })
	last := with(a, 0, func(r *api.Route) { r.Stops[crowd-1] = q(99) })
	checkKept(t, a, last, true)
	checkKept(t, a, first, false)
	a[0].Served, first[0].Served, last[0].Served = crowd, crowd, crowd
	checkKept(t, a, last, false)
	checkKept(t, a, first, false)
	checkKept(t, a, a, true)
}

// few returns all routes of driver, and none of it, with up to two of three stops, any number of which is done.
func few(driver int) []api.Plan {
	l := []api.Plan{nil}
	stops := []api.Stop{p(1), q(1), p(2)}
	lists := [][]api.Stop{nil}
	for _, s := range stops {
		lists = append(lists, []api.Stop{s})
		for _, other := range stops {
			if other != s {
				lists = append(lists, []api.Stop{s, other})
			}
		}
	}
	for _, stops := range lists {
		for n := range len(stops) + 1 {
			l = append(l, api.Plan{{Driver: driver, Served: n, Stops: stops}})
		}
	}
	return l
}

// P11.2 and P11.3: all plans of few stops, each against each: what Kept holds between them is transitive, and holds of each
// with itself exactly if it is right.
func TestKeptOfFew(t *testing.T) {
	var plans []api.Plan
	for _, a := range few(3) {
		for _, b := range few(8) {
			plans = append(plans, slices.Concat(a, b))
		}
	}
	nexts := make([][]int, len(plans))
	kept := make([][]bool, len(plans))
	for i, a := range plans {
		checkKept(t, a, a, plan.Right(a))
		for j, b := range plans {
			checkKept(t, a, b, keptThere(a, b))
			holds := audit.Kept(a, b)
			kept[i] = append(kept[i], holds)
			if holds {
				nexts[i] = append(nexts[i], j)
			}
		}
	}
	chains := 0
	for i := range plans {
		for _, j := range nexts[i] {
			for _, k := range nexts[j] {
				chains++
				if !kept[i][k] {
					t.Fatalf("Kept(%v, %v) and Kept of that and %v hold, but not from the first to the last", plans[i], plans[j], plans[k])
				}
			}
		}
	}
	if chains < 90000 {
		t.Errorf("%d chains: too few", chains)
	}
}
