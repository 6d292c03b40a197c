package repair_test

import (
	"math"
	"slices"
	"testing"

	"dray/api"
	"dray/cert"
	"dray/geo"
	"dray/insert"
	"dray/repair"
	"dray/slack"
)

const (
	// These hold the bounds anew, as the document's table of limits says them.
	places  = 12
	longest = 1000000
	biggest = 1000
	highest = 1000000
	fleet   = 8
	most    = 40
	crowd   = 80
	budgets = 100000

	greatest = math.MaxInt
	least    = math.MinInt
)

// world is what the three are asked with, but for the budget.
type world struct {
	m       *geo.Map
	drivers []api.Driver
	orders  []api.Order
	plan    api.Plan
}

// answer is what Repair returns; Pass makes one pass.
type answer struct {
	plan          api.Plan
	steps, passes int
	why           api.Errno
}

// search is how the cheapest position for an order is found.
type search func(w world, o api.Order, budget int) (api.Spot, int, bool)

func window(from, to int) api.Window { return api.Window{From: from, To: to} }

func site(place, from, to, service int) api.Site {
	return api.Site{Place: place, Window: window(from, to), Service: service}
}

func p(id int) api.Stop { return api.Stop{Order: id} }
func q(id int) api.Stop { return api.Stop{Order: id, Drop: true} }

func drive(driver int, stops ...api.Stop) api.Route { return api.Route{Driver: driver, Stops: stops} }

func refused() answer { return answer{why: api.ErrArg} }

func made(t *testing.T, n int, times ...int) *geo.Map {
	t.Helper()
	m, why := geo.New(n, times...)
	if m == nil || why != api.OK {
		t.Fatalf("New(%d, %v) = %v, %d", n, times, m, why)
	}
	return m
}

// line returns a map of n places in a row, with 10 between neighbours.
func line(t *testing.T, n int) *geo.Map {
	t.Helper()
	var times []int
	for a := range n {
		for b := range n {
			times = append(times, 10*max(a-b, b-a))
		}
	}
	return made(t, n, times...)
}

// errand returns an order of size 1 from one place to another, at any time, that takes no time by itself.
func errand(id, from, to int) api.Order {
	return api.Order{Id: id, Size: 1, Pick: site(from, 0, longest, 0), Drop: site(to, 0, longest, 0)}
}

// idler returns a driver that is at home at the place, with much room and all the time there is.
func idler(id, home int) api.Driver {
	return api.Driver{Id: id, Room: 9, Home: home, Window: window(0, longest)}
}

// example is the world of the chapter's example runs, its orders listed the other way round.
func example(t *testing.T) world {
	t.Helper()
	d := api.Driver{Id: 4, Room: 4, Home: 1, Window: window(1, 30)}
	other := d
	other.Id, other.Home = 5, 0
	return world{
		m:       made(t, 2, 0, 5, 7, 0),
		drivers: []api.Driver{other, d},
		orders: []api.Order{
			{Id: 2, Size: 1, Pick: site(0, 0, 100, 1), Drop: site(1, 0, 100, 2)},
			{Id: 1, Size: 3, Pick: site(0, 2, 9, 1), Drop: site(1, 0, 20, 2)},
		},
		plan: api.Plan{drive(4, p(1), q(1)), drive(5, p(2), q(2))},
	}
}

// lane is a world of four places in a row, where 4 drives 80 from 0, up and down: with 1 to 3 and back, and with 2 from 0
// to 2. Everything fits everywhere.
func lane(t *testing.T) world {
	t.Helper()
	return world{
		m:       line(t, 4),
		drivers: []api.Driver{idler(4, 0)},
		orders:  []api.Order{errand(2, 0, 2), errand(1, 1, 3)},
		plan:    api.Plan{drive(4, p(1), q(1), p(2), q(2))},
	}
}

// turned is the lane with other stops on its route.
func turned(t *testing.T, stops ...api.Stop) world {
	t.Helper()
	w := lane(t)
	w.plan[0].Stops = stops
	return w
}

// chain is a world of a row of places with a driver at each of them, 10, 20, .., none of which has time for two orders. The
// first order stands on the first driver's route and is next to the second driver, and so on; only the last driver is free.
func chain(t *testing.T, ids ...int) world {
	t.Helper()
	w := world{m: line(t, len(ids)+1)}
	for k := range len(ids) + 1 {
		d := idler(10*(k+1), k)
		d.To = 100
		w.drivers = append(w.drivers, d)
		w.plan = append(w.plan, drive(d.Id))
	}
	for k, id := range ids {
		o := errand(id, k+1, k+1)
		o.Pick.Service = 60
		w.orders = append(w.orders, o)
		w.plan[k].Stops = []api.Stop{p(id), q(id)}
	}
	return w
}

// yards returns a world of one place with a route for each number, of as many orders, the drivers being 10, 20, .., and
// with n orders in all; nothing takes time, and everything fits everywhere.
func yards(t *testing.T, n int, each ...int) world {
	t.Helper()
	w := world{m: made(t, 1, 0)}
	for id := 1; id <= n; id++ {
		w.orders = append(w.orders, errand(id, 0, 0))
	}
	next := 1
	for k, count := range each {
		r := drive(10 * (k + 1))
		for range count {
			r.Stops = append(r.Stops, p(next), q(next))
			next++
		}
		w.plan = append(w.plan, r)
		w.drivers = append(w.drivers, api.Driver{Id: r.Driver, Room: 2})
	}
	return w
}

// beyond holds numbers that neither an order nor a driver has.
func beyond() []int {
	return []int{0, -1, highest + 1, 1<<32 + 4, least, least + 1, greatest - 1, greatest}
}

// copied returns w with lists of its own.
func copied(w world) world {
	w.drivers, w.orders, w.plan = slices.Clone(w.drivers), slices.Clone(w.orders), slices.Clone(w.plan)
	for k, r := range w.plan {
		w.plan[k].Stops = slices.Clone(r.Stops)
	}
	return w
}

// driver returns the driver of that Id, to be changed, or nil.
func (w world) driver(id int) *api.Driver {
	for i := range w.drivers {
		if w.drivers[i].Id == id {
			return &w.drivers[i]
		}
	}
	return nil
}

// order returns the order of that Id, to be changed, or nil.
func (w world) order(id int) *api.Order {
	for i := range w.orders {
		if w.orders[i].Id == id {
			return &w.orders[i]
		}
	}
	return nil
}

// same reports whether the two plans are one, however their lists are made.
func same(a, b api.Plan) bool {
	return slices.EqualFunc(a, b, func(r, s api.Route) bool {
		return r.Driver == s.Driver && r.Served == s.Served && slices.Equal(r.Stops, s.Stops)
	})
}

func (a answer) is(b answer) bool {
	return same(a.plan, b.plan) && a.steps == b.steps && a.passes == b.passes && a.why == b.why
}

// wayThere adds up the ways of a route, stop by stop.
func wayThere(w world, r api.Route) int {
	total, place := 0, w.driver(r.Driver).Home
	for _, s := range r.Stops {
		to := w.order(s.Order).Pick.Place
		if s.Drop {
			to = w.order(s.Order).Drop.Place
		}
		way, _ := w.m.Time(place, to)
		total, place = total+way, to
	}
	return total
}

// totalThere is P13.1 by its words.
func totalThere(w world) (int, bool) {
	if _, f := cert.Make(w.m, w.drivers, w.orders, w.plan); !f.Good() {
		return 0, false
	}
	total := 0
	for _, r := range w.plan {
		total += wayThere(w, r)
	}
	return total, true
}

// liftedThere returns w without the order, neither in the list nor in the plan, and false if the order stands in no route
// or is begun.
func liftedThere(w world, id int) (world, bool) {
	stands, begun := false, false
	w = copied(w)
	for k, r := range w.plan {
		var rest []api.Stop
		for i, s := range r.Stops {
			switch {
			case s.Order != id:
				rest = append(rest, s)
			case i < r.Served:
				begun = true
			default:
				stands = true
			}
		}
		w.plan[k].Stops = rest
	}
	w.orders = slices.DeleteFunc(w.orders, func(o api.Order) bool { return o.Id == id })
	return w, stands && !begun
}

// putThere returns w with the order put in at s.
func putThere(w world, o api.Order, s api.Spot) world {
	w = copied(w)
	w.orders = append(w.orders, o)
	for k, r := range w.plan {
		if r.Driver == s.Driver {
			w.plan[k].Stops = slack.Put(r.Stops, o.Id, s.Pick, s.Drop)
		}
	}
	return w
}

// passThere is P13.2 by its words.
func passThere(w world, budget int, seek search) answer {
	total, ok := totalThere(w)
	if !ok || budget < 0 || budget > budgets {
		return refused()
	}
	var ids []int
	for _, o := range w.orders {
		ids = append(ids, o.Id)
	}
	slices.Sort(ids)
	a := answer{passes: 1}
	for _, id := range ids {
		rest, free := liftedThere(w, id)
		if !free || a.steps >= budget {
			continue
		}
		o := *w.order(id)
		s, steps, found := seek(rest, o, budget-a.steps)
		a.steps += steps
		if found {
			next := putThere(rest, o, s)
			if cost, _ := totalThere(next); cost < total {
				w.plan, total = next.plan, cost
			}
		}
	}
	a.plan = w.plan
	return a
}

// repairThere is P13.3 by its words.
func repairThere(w world, budget int, seek search) answer {
	if _, ok := totalThere(w); !ok || budget < 0 || budget > budgets {
		return refused()
	}
	a := answer{plan: w.plan}
	for a.steps < budget {
		w.plan = a.plan
		next := passThere(w, budget-a.steps, seek)
		a.plan, a.steps, a.passes = next.plan, a.steps+next.steps, a.passes+1
		if same(next.plan, w.plan) {
			break
		}
	}
	return a
}

// called finds a position as the chapter says it: by insert.Cheapest.
func called(w world, o api.Order, budget int) (api.Spot, int, bool) {
	s, steps, why := insert.Cheapest(w.m, w.drivers, w.orders, w.plan, o, budget)
	return s, steps, why == api.OK
}

// total calls Total and holds it against P13.1.
func total(t *testing.T, w world) (int, bool) {
	t.Helper()
	n, ok := repair.Total(w.m, w.drivers, w.orders, w.plan)
	if want, wantOk := totalThere(w); n != want || ok != wantOk {
		t.Fatalf("Total(%+v) = %d, %v, not %d, %v", w, n, ok, want, wantOk)
	}
	return n, ok
}

// pass calls Pass and holds it against P13.2.
func pass(t *testing.T, w world, budget int) answer {
	t.Helper()
	a := passed(w, budget)
	if want := passThere(w, budget, called); !a.is(want) {
		t.Fatalf("Pass(%+v, %d) = %v, not %v", w, budget, a, want)
	}
	return a
}

// passed calls Pass alone.
func passed(w world, budget int) answer {
	a := answer{passes: 1}
	a.plan, a.steps, a.why = repair.Pass(w.m, w.drivers, w.orders, w.plan, budget)
	if a.why != api.OK {
		a.passes = 0
	}
	return a
}

// mend calls Repair and holds it against P13.3.
func mend(t *testing.T, w world, budget int) answer {
	t.Helper()
	a := mended(w, budget)
	if want := repairThere(w, budget, called); !a.is(want) {
		t.Fatalf("Repair(%+v, %d) = %v, not %v", w, budget, a, want)
	}
	return a
}

// mended calls Repair alone.
func mended(w world, budget int) answer {
	var a answer
	a.plan, a.steps, a.passes, a.why = repair.Repair(w.m, w.drivers, w.orders, w.plan, budget)
	return a
}

func checkTotal(t *testing.T, w world, want int) {
	t.Helper()
	if n, ok := total(t, w); n != want || !ok {
		t.Fatalf("Total(%+v) = %d, %v, not %d", w, n, ok, want)
	}
}

func checkPass(t *testing.T, w world, budget int, want answer) {
	t.Helper()
	if a := pass(t, w, budget); !a.is(want) {
		t.Fatalf("Pass(%+v, %d) = %v, not %v", w, budget, a, want)
	}
}

func checkRepair(t *testing.T, w world, budget int, want answer) {
	t.Helper()
	if a := mend(t, w, budget); !a.is(want) {
		t.Fatalf("Repair(%+v, %d) = %v, not %v", w, budget, a, want)
	}
}

// checkRefused holds that w has no Total, and is refused with each budget.
func checkRefused(t *testing.T, w world) {
	t.Helper()
	if n, ok := total(t, w); n != 0 || ok {
		t.Fatalf("Total(%+v) = %d, %v", w, n, ok)
	}
	for _, budget := range []int{-1, 0, 1, 9, budgets} {
		checkPass(t, w, budget, refused())
		checkRepair(t, w, budget, refused())
	}
}

// The bounds are those of the document's table.
func TestBounds(t *testing.T) {
	if api.MaxPlaces != places || api.MaxTime != longest || api.MaxSize != biggest || api.MaxId != highest {
		t.Error("package api has other bounds")
	}
	if api.MaxDrivers != fleet || api.MaxOrders != most || api.MaxStops != crowd || api.MaxBudget != budgets {
		t.Error("package api has other bounds")
	}
}

// The chapter's example runs.
func TestExampleRuns(t *testing.T) {
	w := example(t)
	checkTotal(t, w, 17)
	better := api.Plan{drive(4), drive(5, p(1), p(2), q(1), q(2))}
	checkPass(t, w, 100, answer{better, 14, 1, api.OK})
	checkRepair(t, w, 100, answer{better, 28, 2, api.OK})
	checkRepair(t, w, 0, answer{w.plan, 0, 0, api.OK})
	checkPass(t, w, -1, refused())
}

// The remark on the example: 12 of the 17 is what o costs on the route of 4, and beside r it costs nothing.
func TestExampleCosts(t *testing.T) {
	w := example(t)
	for k, want := range []int{12, 5} {
		one := w
		one.plan = w.plan[k : k+1]
		checkTotal(t, one, want)
	}
	w.plan = api.Plan{drive(4), drive(5, p(1), p(2), q(1), q(2))}
	checkTotal(t, w, 5)
	w.plan = w.plan[1:]
	checkTotal(t, w, 5)
}
