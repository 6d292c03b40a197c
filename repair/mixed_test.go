package repair_test

import (
	"math/rand"
	"slices"
	"testing"

	"dray/api"
	"dray/audit"
	"dray/cert"
	"dray/geo"
	"dray/plan"
	"dray/route"
	"dray/slack"
)

// mixer makes worlds, the same ones in every run.
type mixer struct{ *rand.Rand }

func mixed(seed int64) mixer { return mixer{rand.New(rand.NewSource(seed))} }

func (x mixer) roads(t *testing.T, n int) *geo.Map {
	t.Helper()
	times := make([]int, n*n)
	for i := range times {
		if i/n != i%n {
			times[i] = x.Intn(12)
		}
	}
	return made(t, n, times...)
}

func (x mixer) site(n int) api.Site {
	from := x.Intn(30)
	return site(x.Intn(n), from, from+20+x.Intn(100), x.Intn(3))
}

func (x mixer) order(id, n int) api.Order {
	return api.Order{Id: id, Size: 1 + x.Intn(4), Pick: x.site(n), Drop: x.site(n)}
}

// idle returns a world with up to MaxDrivers drivers and some orders, both of strewn Ids, and a route without stops for
// most of the drivers.
func (x mixer) idle(t *testing.T) world {
	t.Helper()
	n := 2 + x.Intn(5)
	w := world{m: x.roads(t, n)}
	for _, id := range x.Perm(30)[:x.Intn(fleet+1)] {
		d := api.Driver{Id: id + 1, Room: 3 + x.Intn(8), Home: x.Intn(n), Retired: x.Intn(6) == 0}
		d.Window = window(x.Intn(12), 40+x.Intn(140))
		w.drivers = append(w.drivers, d)
		if x.Intn(6) > 0 {
			w.plan = append(w.plan, drive(d.Id))
		}
	}
	slices.SortFunc(w.plan, func(a, b api.Route) int { return a.Driver - b.Driver })
	for _, id := range x.Perm(40)[:x.Intn(12)] {
		w.orders = append(w.orders, x.order(id+1, n))
	}
	return w
}

// right returns a world in which nothing is wrong: the orders are put in where they fit, if that is found soon, and some
// stops are done.
func (x mixer) right(t *testing.T) world {
	t.Helper()
	w := x.idle(t)
	for _, o := range w.orders {
		for range min(len(w.plan)*4, 12) {
			r := &w.plan[x.Intn(len(w.plan))]
			i := x.Intn(len(r.Stops) + 1)
			stops := slack.Put(r.Stops, o.Id, i, i+x.Intn(len(r.Stops)-i+1))
			if _, f := route.Drive(w.m, *w.driver(r.Driver), w.orders, stops...); f.Good() {
				r.Stops = stops
				break
			}
		}
	}
	for i := range w.plan {
		if x.Intn(3) == 0 {
			w.plan[i].Served = x.Intn(len(w.plan[i].Stops) + 1)
		}
	}
	return w
}

// spoiled returns a world in which one thing, or several, may be wrong.
func (x mixer) spoiled(t *testing.T) world {
	t.Helper()
	w := copied(x.right(t))
	for range 1 + x.Intn(2) {
		x.spoil(w)
	}
	return w
}

// spoil changes something at w's lists, in their places.
func (x mixer) spoil(w world) {
	if len(w.plan) > 0 {
		r := &w.plan[x.Intn(len(w.plan))]
		switch k := x.Intn(len(r.Stops) + 1); x.Intn(8) {
		case 0:
			r.Stops = slices.Insert(r.Stops, k, api.Stop{Order: 1 + x.Intn(40), Drop: x.Intn(2) == 0})
		case 1:
			r.Stops = slices.Delete(r.Stops, k, min(k+1, len(r.Stops)))
		case 2:
			slices.Reverse(r.Stops[k:])
		case 3:
			r.Served = x.Intn(len(r.Stops)+3) - 1
		case 4:
			r.Driver += x.Intn(3) - 1
		}
	}
	if len(w.drivers) > 0 {
		d := &w.drivers[x.Intn(len(w.drivers))]
		switch x.Intn(12) {
		case 0:
			d.Room = x.Intn(5)
		case 1:
			d.Home = x.Intn(6)
		case 2:
			d.To = x.Intn(40)
		case 3:
			d.Id += x.Intn(3) - 1
		}
	}
	if len(w.orders) > 0 {
		o := &w.orders[x.Intn(len(w.orders))]
		switch x.Intn(12) {
		case 0:
			o.Size = x.Intn(5)
		case 1:
			o.Id += x.Intn(3) - 1
		case 2:
			o.Drop.To -= x.Intn(20)
		case 3:
			o.Pick.Service += x.Intn(9) - 1
		}
	}
}

// any returns a world of one of these kinds.
func (x mixer) any(t *testing.T) world {
	t.Helper()
	if x.Intn(4) == 0 {
		return x.spoiled(t)
	}
	return x.right(t)
}

// budget returns a budget that ends in the midst of things, or more than enough, or one that can't be.
func (x mixer) budget() int {
	switch x.Intn(16) {
	case 0:
		return budgets - x.Intn(2)
	case 1:
		return x.Intn(4) - 1
	case 2:
		return wrongBudgets()[x.Intn(len(wrongBudgets()))]
	case 3, 4, 5, 6:
		return 5000
	}
	return x.Intn(1 << (2 + x.Intn(10)))
}

// walked finds a position by trying one after another, as chapter 12 says it.
func walked(w world, o api.Order, budget int) (api.Spot, int, bool) {
	best, steps, found := api.Spot{}, 0, false
	if _, ok := totalThere(w); !ok {
		return best, steps, found
	}
	for k, r := range w.plan {
		if w.driver(r.Driver).Retired || len(r.Stops) > crowd-2 {
			continue
		}
		for i := r.Served; i <= len(r.Stops); i++ {
			for j := i; j <= len(r.Stops) && steps < budget; j++ {
				steps++
				s := api.Spot{Driver: r.Driver, Pick: i, Drop: j}
				if !slack.Fits(w.m, *w.driver(r.Driver), w.orders, r.Stops, o, i, j) {
					continue
				}
				next := putThere(w, o, s)
				s.Cost = wayThere(next, next.plan[k]) - wayThere(w, r)
				if !found || s.Cost < best.Cost {
					best, found = s, true
				}
			}
		}
	}
	return best, steps, found
}

// P13.1 to P13.3: plans of all kinds, held against the chapter's words
func TestMixed(t *testing.T) {
	x := mixed(41)
	sums, changes, passes := map[bool]int{}, map[bool]int{}, map[int]int{}
	for range 3000 {
		w := x.any(t)
		_, ok := total(t, w)
		sums[ok]++
		budget := x.budget()
		if a := pass(t, w, budget); a.why == api.OK {
			changes[!same(a.plan, w.plan)]++
		}
		passes[mend(t, w, budget).passes]++
	}
	if sums[true] < 1000 || sums[false] < 300 || changes[true] < 600 || changes[false] < 600 {
		t.Errorf("%v have a Total, and %v are changed: too few", sums, changes)
	}
	if passes[0] < 300 || passes[1] < 300 || passes[2] < 300 || passes[3] < 100 || passes[4] < 10 {
		t.Errorf("%v take so many passes: too few", passes)
	}
}

// P13.2 and P13.3: so it is where the oracle looks for positions by itself and asks no package that searches.
func TestMixedWalked(t *testing.T) {
	x := mixed(42)
	changes := map[bool]int{}
	for range 500 {
		w := x.right(t)
		budget := x.budget()
		if a, want := passed(w, budget), passThere(w, budget, walked); !a.is(want) {
			t.Fatalf("Pass(%+v, %d) = %v, not %v", w, budget, a, want)
		}
		a, want := mended(w, budget), repairThere(w, budget, walked)
		if !a.is(want) {
			t.Fatalf("Repair(%+v, %d) = %v, not %v", w, budget, a, want)
		}
		changes[same(a.plan, w.plan)]++
	}
	if changes[true] < 100 || changes[false] < 100 {
		t.Errorf("%v are changed: too few", changes)
	}
}

// checkBetter holds what P13.4 says of a plan that is returned for w.
func checkBetter(t *testing.T, w world, a answer, budget int) {
	t.Helper()
	next := w
	next.plan = a.plan
	if _, f := cert.Make(w.m, w.drivers, w.orders, a.plan); !f.Good() {
		t.Fatalf("for %+v, %v has no certificate: %v", w, a.plan, f)
	}
	if !slices.Equal(plan.Orders(a.plan), plan.Orders(w.plan)) || len(a.plan) != len(w.plan) {
		t.Fatalf("for %+v, %v has other orders", w, a.plan)
	}
	if !audit.Kept(w.plan, a.plan) {
		t.Fatalf("for %+v, %v is not Kept", w, a.plan)
	}
	before, _ := totalThere(w)
	after, _ := totalThere(next)
	if after > before || (after < before) == same(a.plan, w.plan) {
		t.Fatalf("for %+v, %v costs %d, and before %d", w, a.plan, after, before)
	}
	if a.steps < 0 || a.steps > budget {
		t.Fatalf("for %+v and a budget of %d, there are %d steps", w, budget, a.steps)
	}
}

// P13.4: what is returned has a certificate, the same orders, is Kept, and costs less exactly if it differs; there are never
// more steps than budget; and what Repair returns with steps left is not changed by a pass with the same budget.
func TestMixedBetter(t *testing.T) {
	x := mixed(43)
	better, done := 0, 0
	for range 700 {
		w := x.right(t)
		for _, budget := range []int{0, x.Intn(20), x.Intn(300), x.Intn(3000), budgets} {
			checkBetter(t, w, passed(w, budget), budget)
			a := mended(w, budget)
			checkBetter(t, w, a, budget)
			if !same(a.plan, w.plan) {
				better++
			}
			if a.steps < budget {
				next := w
				next.plan = a.plan
				if b := passed(next, budget); !same(b.plan, a.plan) {
					t.Fatalf("Repair(%+v, %d) = %v, but a further Pass leads to %v", w, budget, a, b)
				}
				done++
			}
		}
	}
	if better < 500 || done < 1000 {
		t.Errorf("%d are better, and %d are done: too few", better, done)
	}
}

// P13.3: Repair's plan is that of its passes one after another, each with the budget that is left, and its steps are those
// of the passes together; the last one alone changes nothing or uses the budget up.
func TestMixedPasses(t *testing.T) {
	x := mixed(44)
	counts := map[int]int{}
	for range 1500 {
		w, budget := x.right(t), x.Intn(1<<(2+x.Intn(11)))
		a := mended(w, budget)
		steps := 0
		for n := range a.passes {
			next := passed(w, budget-steps)
			steps += next.steps
			changed := !same(next.plan, w.plan)
			if last := n == a.passes-1; last != (!changed || steps == budget) {
				t.Fatalf("Repair(%+v, %d) = %v, but pass %d leads to %v", w, budget, a, n, next)
			}
			w.plan = next.plan
		}
		if steps != a.steps || !same(w.plan, a.plan) {
			t.Fatalf("Repair(.., %d) = %v, but its passes lead to %v in %d steps", budget, a, w.plan, steps)
		}
		counts[a.passes]++
	}
	if counts[1] < 200 || counts[2] < 200 || counts[3] < 30 {
		t.Errorf("%v take so many passes: too few", counts)
	}
}

// P13.2 and P13.3: each budget from 0 to more than a pass takes, on few plans
func TestMixedBudgets(t *testing.T) {
	x := mixed(45)
	plans := 0
	for range 16 {
		w := x.right(t)
		all := passed(w, budgets).steps
		last := passed(w, 0)
		for budget := range min(all, 300) + 3 {
			a := pass(t, w, budget)
			if a.steps != min(budget, all) {
				t.Fatalf("Pass(%+v, %d) = %v, and with more budget there are %d steps", w, budget, a, all)
			}
			mend(t, w, budget)
			if !same(a.plan, last.plan) {
				plans++
			}
			last = a
		}
	}
	if plans < 20 {
		t.Errorf("%d times the plan is another one with one more step: too few", plans)
	}
}
