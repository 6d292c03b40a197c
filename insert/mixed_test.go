package insert_test

import (
	"math/rand"
	"slices"
	"testing"

	"dray/api"
	"dray/cert"
	"dray/geo"
	"dray/insert"
	"dray/plan"
	"dray/route"
	"dray/slack"
)

// mixer makes worlds, the same ones in every run.
type mixer struct{ *rand.Rand }

func mixed(seed int64) mixer { return mixer{rand.New(rand.NewSource(seed))} }

func (x mixer) roads(t *testing.T, n int) *geo.Map {
	t.Helper()
	times := make([]int, n*n)
	for i := range times {
		if i/n != i%n {
			times[i] = x.Intn(8)
		}
	}
	return made(t, n, times...)
}

func (x mixer) site(n int) api.Site {
	from := x.Intn(40)
	return site(x.Intn(n), from, from+x.Intn(80), x.Intn(3))
}

func (x mixer) order(id, n int) api.Order {
	return api.Order{Id: id, Size: 1 + x.Intn(4), Pick: x.site(n), Drop: x.site(n)}
}

// idle returns a world with up to MaxDrivers drivers and some orders, both of strewn Ids, a route without stops for most
// of the drivers, and an order to be put in.
func (x mixer) idle(t *testing.T) world {
	t.Helper()
	n := 1 + x.Intn(5)
	w := world{m: x.roads(t, n)}
	for _, id := range x.Perm(30)[:x.Intn(fleet+1)] {
		d := api.Driver{Id: id + 1, Room: 2 + x.Intn(8), Home: x.Intn(n), Retired: x.Intn(6) == 0}
		d.Window = window(x.Intn(12), 20+x.Intn(120))
		w.drivers = append(w.drivers, d)
		if x.Intn(6) > 0 {
			w.plan = append(w.plan, drive(d.Id))
		}
	}
	slices.SortFunc(w.plan, func(a, b api.Route) int { return a.Driver - b.Driver })
	ids := x.Perm(40)
	for _, id := range ids[:x.Intn(12)] {
		w.orders = append(w.orders, x.order(id+1, n))
	}
	w.o = x.order(ids[20]+1, n)
	return w
}

// right returns a world in which nothing is wrong: the orders are put in where they fit, if that is found soon, and some
// stops are done.
func (x mixer) right(t *testing.T) world {
	t.Helper()
	w := x.idle(t)
	for _, o := range w.orders {
		for range min(len(w.plan)*4, 12) {
			r := &w.plan[x.Intn(len(w.plan))]
			i := x.Intn(len(r.Stops) + 1)
			stops := slack.Put(r.Stops, o.Id, i, i+x.Intn(len(r.Stops)-i+1))
			if _, f := route.Drive(w.m, *w.driver(r.Driver), w.orders, stops...); f.Good() {
				r.Stops = stops
				break
			}
		}
	}
	for i := range w.plan {
		if x.Intn(2) == 0 {
			w.plan[i].Served = x.Intn(len(w.plan[i].Stops) + 1)
		}
	}
	return w
}

// spoiled returns a world in which one thing, or several, may be wrong.
func (x mixer) spoiled(t *testing.T) world {
	t.Helper()
	w := copiedWorld(x.right(t))
	for range 1 + x.Intn(2) {
		x.spoil(w)
		switch x.Intn(8) {
		case 0:
			w.o.Id = 1 + x.Intn(40)
		case 1:
			w.o.Size = x.Intn(2) * (biggest + x.Intn(2))
		case 2:
			w.o.Drop.Place = x.Intn(6) - 1
		case 3:
			w.o.Pick.To = x.Intn(60) - 1
		case 4:
			w.o.Pick.Service = x.Intn(9) - 1
		}
	}
	return w
}

// spoil changes something at w's lists, in their places.
func (x mixer) spoil(w world) {
	if len(w.plan) > 0 {
		r := &w.plan[x.Intn(len(w.plan))]
		switch k := x.Intn(len(r.Stops) + 1); x.Intn(8) {
		case 0:
			r.Stops = slices.Insert(r.Stops, k, api.Stop{Order: 1 + x.Intn(40), Drop: x.Intn(2) == 0})
		case 1:
			r.Stops = slices.Delete(r.Stops, k, min(k+1, len(r.Stops)))
		case 2:
			slices.Reverse(r.Stops[k:])
		case 3:
			r.Served = x.Intn(len(r.Stops)+3) - 1
		case 4:
			r.Driver += x.Intn(3) - 1
		}
	}
	if len(w.drivers) > 0 {
		d := &w.drivers[x.Intn(len(w.drivers))]
		switch x.Intn(12) {
		case 0:
			d.Room = x.Intn(5)
		case 1:
			d.Home = x.Intn(6)
		case 2:
			d.To = x.Intn(40)
		case 3:
			d.Id += x.Intn(3) - 1
		}
	}
	if len(w.orders) > 0 {
		o := &w.orders[x.Intn(len(w.orders))]
		switch x.Intn(12) {
		case 0:
			o.Size = x.Intn(5)
		case 1:
			o.Id += x.Intn(3) - 1
		case 2:
			o.Drop.To -= x.Intn(20)
		case 3:
			o.Pick.Service += x.Intn(9) - 1
		}
	}
}

// any returns a world of one of these kinds.
func (x mixer) any(t *testing.T) world {
	t.Helper()
	if x.Intn(3) == 0 {
		return x.spoiled(t)
	}
	return x.right(t)
}

// budget returns a budget around the number of positions that are open, or another one, or one that can't be.
func (x mixer) budget(w world) int {
	total := 0
	for _, r := range w.plan {
		total += len(openThere(r))
	}
	switch x.Intn(8) {
	case 0:
		return total
	case 1:
		return max(total+x.Intn(5)-2, 0)
	case 2:
		return budgets - x.Intn(2)
	case 3:
		return x.Intn(4) - 1
	case 4:
		if x.Intn(6) == 0 {
			return wrongBudgets()[x.Intn(len(wrongBudgets()))]
		}
	}
	return x.Intn(total + 2)
}

// checkCounts holds that each answer was there often enough for the test to mean something.
func checkCounts(t *testing.T, counts map[api.Errno]int, fewest int, errs ...api.Errno) {
	t.Helper()
	for _, why := range errs {
		if counts[why] < fewest {
			t.Errorf("%d of %v: too few", why, counts)
		}
	}
}

// P12.2: routes of all kinds, each with its driver or with another one, held against the chapter's words
func TestMixedBest(t *testing.T) {
	x := mixed(30)
	counts := map[api.Errno]int{}
	signs := map[bool]int{}
	for range 6000 {
		w := x.any(t)
		for k := range w.plan {
			j := job{m: w.m, orders: w.orders, r: w.plan[k], o: w.o}
			if d := w.driver(w.plan[k].Driver); d != nil {
				j.d = *d
			}
			if x.Intn(40) == 0 {
				j.d = w.drivers[x.Intn(len(w.drivers))]
			}
			a := best(t, j, x.budget(world{plan: w.plan[k : k+1]}))
			counts[a.why]++
			if a.why == api.OK {
				signs[a.spot.Cost < 0]++
			}
		}
	}
	checkCounts(t, counts, 1000, api.OK, api.ErrArg, api.ErrGone, api.ErrRoute)
	if signs[true] < 200 || signs[false] < 1000 {
		t.Errorf("%d prices are negative and %d are not: too few", signs[true], signs[false])
	}
}

// P12.3: plans of all kinds, held against the chapter's words
func TestMixedCheapest(t *testing.T) {
	x := mixed(31)
	counts := map[api.Errno]int{}
	later := 0
	for range 9000 {
		w := x.any(t)
		a := cheapest(t, w, x.budget(w))
		counts[a.why]++
		if a.why == api.OK && a.spot.Driver != w.plan[0].Driver {
			later++
		}
	}
	checkCounts(t, counts, 1000, api.OK, api.ErrArg, api.ErrRoute)
	if later < 500 {
		t.Errorf("%d are not on the first route: too few", later)
	}
}

// P12.4: where the budget allows all positions to be tried, no position at which the order fits has a smaller price, and
// those ahead of what is found a greater one; each of the prices is what the whole plan costs more.
func TestMixedNoneSmaller(t *testing.T) {
	x := mixed(32)
	placed, other := 0, 0
	for range 3000 {
		w := x.right(t)
		s, steps, why := insert.Cheapest(w.m, w.drivers, w.orders, w.plan, w.o, budgets)
		ahead, all := true, 0
		for k, r := range w.plan {
			if !w.tryable(k) {
				continue
			}
			for _, at := range openThere(r) {
				all++
				price, fits := dearer(t, w, at)
				if same := at.Driver == s.Driver && at.Pick == s.Pick && at.Drop == s.Drop; same {
					ahead = false
					if !fits || price != s.Cost {
						t.Fatalf("Cheapest(%+v) = %v, but the plan costs %d more, %v", w, s, price, fits)
					}
					placed++
				} else if fits {
					other++
					if why != api.OK || price < s.Cost || ahead && price == s.Cost {
						t.Fatalf("Cheapest(%+v) = %v, %d, but %v costs %d", w, s, why, at, price)
					}
				}
			}
		}
		if steps != all || why == api.OK && ahead {
			t.Fatalf("Cheapest(%+v) = %v, %d, %d; %d positions are open", w, s, steps, why, all)
		}
	}
	if placed < 1000 || other < 5000 {
		t.Errorf("%d are placed, and %d other positions fit: too few", placed, other)
	}
}

// dearer puts the order in by plan.With, and returns what the plan then costs more, by the ways alone; false if it has no
// certificate.
func dearer(t *testing.T, w world, s api.Spot) (int, bool) {
	t.Helper()
	next, ok := plan.With(w.plan, w.o.Id, s)
	if !ok {
		t.Fatalf("With(%v, %d, %v) puts nothing in", w.plan, w.o.Id, s)
	}
	orders := append(slices.Clone(w.orders), w.o)
	if _, f := cert.Make(w.m, w.drivers, orders, next); !f.Good() {
		return 0, false
	}
	return costThere(w, orders, next) - costThere(w, orders, w.plan), true
}

func costThere(w world, orders []api.Order, a api.Plan) int {
	total := 0
	for _, r := range a {
		total += wayThere(w.m, *w.driver(r.Driver), orders, r.Stops)
	}
	return total
}

// P12.4: what Best and Cheapest find has a certificate and costs exactly the price more, whatever the budget; where they
// find nothing, each position that was tried has none.
func TestMixedWith(t *testing.T) {
	x := mixed(33)
	placed, failed := 0, 0
	check := func(w world, a answer, tried []api.Spot) {
		t.Helper()
		if a.why == api.OK {
			placed++
			if price, ok := dearer(t, w, a.spot); !ok || price != a.spot.Cost {
				t.Fatalf("%v is told for %+v, but the plan costs %d more, %v", a, w, price, ok)
			}
			return
		}
		failed++
		for _, at := range tried {
			if _, ok := dearer(t, w, at); ok {
				t.Fatalf("%v is told for %+v, but %v fits", a, w, at)
			}
		}
	}
	for range 3000 {
		w := x.right(t)
		var open []api.Spot
		for k, r := range w.plan {
			if w.tryable(k) {
				n := 1 + x.Intn(len(openThere(r))+1)
				a := best(t, w.job(k), n)
				check(w, a, openThere(r)[:a.steps])
				open = append(open, openThere(r)...)
			}
		}
		n := 1 + x.Intn(len(open)+1)
		a := cheapest(t, w, n)
		check(w, a, open[:a.steps])
	}
	if placed < 3000 || failed < 1000 {
		t.Errorf("%d are placed and %d are not: too few", placed, failed)
	}
}

// P12.4: a greater budget leads to no greater price, and there are never more steps than budget; what one budget finds is
// found with all greater ones, or something cheaper.
func TestMixedBudgets(t *testing.T) {
	x := mixed(34)
	falls := 0
	rises := func(ask func(budget int) answer, all int) {
		t.Helper()
		last := ask(0)
		if last != nowhere(0) {
			t.Fatalf("with nothing to spend, %v", last)
		}
		for budget := 1; budget <= all+2; budget++ {
			a := ask(budget)
			if a.steps > budget || a.steps != min(budget, all) {
				t.Fatalf("with a budget of %d for %d positions, there are %d steps", budget, all, a.steps)
			}
			switch {
			case last.why != api.OK && a.why != api.OK || a.why == api.OK && a.spot == last.spot:
			case a.why != api.OK || last.why == api.OK && a.spot.Cost >= last.spot.Cost:
				t.Fatalf("with a budget of %d, %v, and with one of %d, %v", budget-1, last, budget, a)
			case last.why == api.OK:
				falls++
			}
			last = a
		}
	}
	for range 500 {
		w := x.right(t)
		all := 0
		for k, r := range w.plan {
			if !w.tryable(k) {
				continue
			}
			all += len(openThere(r))
			j := w.job(k)
			rises(func(budget int) answer {
				var a answer
				a.spot, a.steps, a.why = insert.Best(j.m, j.d, j.orders, j.r, j.o, budget)
				return a
			}, len(openThere(r)))
		}
		rises(func(budget int) answer {
			var a answer
			a.spot, a.steps, a.why = insert.Cheapest(w.m, w.drivers, w.orders, w.plan, w.o, budget)
			return a
		}, all)
	}
	if falls < 300 {
		t.Errorf("%d prices fall: too few", falls)
	}
}

// P12.3: Cheapest finds what is cheapest of what Best finds on the routes by themselves.
func TestMixedRoutesAlone(t *testing.T) {
	x := mixed(35)
	several := 0
	for range 3000 {
		w := x.right(t)
		want, routes := nowhere(0), 0
		for k := range w.plan {
			a := best(t, w.job(k), budgets)
			if a.why == api.ErrGone {
				continue
			}
			want.steps += a.steps
			if a.why == api.OK {
				routes++
				if want.why != api.OK || a.spot.Cost < want.spot.Cost {
					want.spot, want.why = a.spot, api.OK
				}
			}
			one := w
			one.plan = w.plan[k : k+1]
			checkCheapest(t, one, budgets, a)
		}
		checkCheapest(t, w, budgets, want)
		if routes > 1 {
			several++
		}
	}
	if several < 500 {
		t.Errorf("%d orders fit on several routes: too few", several)
	}
}
