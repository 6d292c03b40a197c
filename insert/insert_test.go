package insert_test

import (
	"math"
	"slices"
	"testing"

	"dray/api"
	"dray/cert"
	"dray/deal"
	"dray/geo"
	"dray/insert"
	"dray/plan"
	"dray/route"
	"dray/slack"
)

const (
	// These hold the bounds anew, as the document's table of limits says them.
	places  = 12
	longest = 1000000
	biggest = 1000
	highest = 1000000
	fleet   = 8
	most    = 40
	crowd   = 80
	budgets = 100000

	// plenty is a budget that is never used up here.
	plenty = 50000

	greatest = math.MaxInt
	least    = math.MinInt
)

// world is what Cheapest is asked with, but for the budget.
type world struct {
	m       *geo.Map
	drivers []api.Driver
	orders  []api.Order
	plan    api.Plan
	o       api.Order
}

// job is what Best is asked with, but for the budget.
type job struct {
	m      *geo.Map
	d      api.Driver
	orders []api.Order
	r      api.Route
	o      api.Order
}

// answer is what either of the two returns.
type answer struct {
	spot  api.Spot
	steps int
	why   api.Errno
}

func window(from, to int) api.Window { return api.Window{From: from, To: to} }

func site(place, from, to, service int) api.Site {
	return api.Site{Place: place, Window: window(from, to), Service: service}
}

func p(id int) api.Stop { return api.Stop{Order: id} }
func q(id int) api.Stop { return api.Stop{Order: id, Drop: true} }

func drive(driver int, stops ...api.Stop) api.Route { return api.Route{Driver: driver, Stops: stops} }

func spot(driver, pick, drop, cost int) api.Spot {
	return api.Spot{Driver: driver, Pick: pick, Drop: drop, Cost: cost}
}

func found(s api.Spot, steps int) answer { return answer{s, steps, api.OK} }

// nowhere is the answer where the order fits at none of that many positions.
func nowhere(steps int) answer { return answer{steps: steps, why: api.ErrRoute} }

func refused(why api.Errno) answer { return answer{why: why} }

func made(t *testing.T, n int, times ...int) *geo.Map {
	t.Helper()
	m, why := geo.New(n, times...)
	if m == nil || why != api.OK {
		t.Fatalf("New(%d, %v) = %v, %d", n, times, m, why)
	}
	return m
}

// example is the job of the chapter's example runs: p and q on the route, and r to be put in.
func example(t *testing.T) job {
	t.Helper()
	return job{
		m:      made(t, 2, 0, 5, 7, 0),
		d:      api.Driver{Id: 4, Room: 4, Home: 1, Window: window(1, 30)},
		orders: []api.Order{{Id: 1, Size: 3, Pick: site(0, 2, 9, 1), Drop: site(1, 0, 20, 2)}},
		r:      drive(4, p(1), q(1)),
		o:      api.Order{Id: 2, Size: 1, Pick: site(0, 0, 100, 1), Drop: site(1, 0, 100, 2)},
	}
}

// errand returns an order of size 1 from one place to another, at any time, that takes no time by itself.
func errand(id, from, to int) api.Order {
	return api.Order{Id: id, Size: 1, Pick: site(from, 0, longest, 0), Drop: site(to, 0, longest, 0)}
}

// line returns a map of n places in a row, with 10 between neighbours.
func line(t *testing.T, n int) *geo.Map {
	t.Helper()
	var times []int
	for a := range n {
		for b := range n {
			times = append(times, 10*max(a-b, b-a))
		}
	}
	return made(t, n, times...)
}

// street is a world of four places in a row, where everything fits everywhere: 2 drives 30 from 0 over 1 to 3, 5 drives 30
// from 3 over 2 to 0, and 7 stays at 1. The order to be put in goes from 3 to 2.
func street(t *testing.T) world {
	t.Helper()
	return world{
		m: line(t, 4),
		drivers: []api.Driver{
			{Id: 7, Room: 9, Home: 1, Window: window(0, longest)},
			{Id: 2, Room: 9, Home: 0, Window: window(0, longest)},
			{Id: 5, Room: 9, Home: 3, Window: window(0, longest)},
		},
		orders: []api.Order{errand(6, 1, 3), errand(3, 2, 0)},
		plan:   api.Plan{drive(2, p(6), q(6)), drive(5, p(3), q(3)), drive(7)},
		o:      errand(9, 3, 2),
	}
}

// yard is a job of one place, where nothing takes time, with n orders and the first of them, as many as are asked for, on
// the route one behind the other; everything fits everywhere.
func yard(t *testing.T, n, driven int) job {
	t.Helper()
	j := job{m: made(t, 1, 0), d: api.Driver{Id: 4, Room: 2, Window: window(0, 0)}, r: drive(4), o: errand(99, 0, 0)}
	for id := 1; id <= n; id++ {
		j.orders = append(j.orders, errand(id, 0, 0))
	}
	for id := 1; id <= driven; id++ {
		j.r.Stops = append(j.r.Stops, p(id), q(id))
	}
	return j
}

// beyond holds numbers that neither an order nor a driver has.
func beyond() []int {
	return []int{0, -1, highest + 1, 1<<32 + 4, least, least + 1, greatest - 1, greatest}
}

// positions returns how many open positions a route has with that many stops that are not done.
func positions(open int) int { return (open + 1) * (open + 2) / 2 }

// openThere is what P12.1 says of the open positions.
func openThere(r api.Route) []api.Spot {
	var l []api.Spot
	for i := range len(r.Stops) + 1 {
		for j := range len(r.Stops) + 1 {
			if i >= r.Served && j >= i {
				l = append(l, spot(r.Driver, i, j, 0))
			}
		}
	}
	return l
}

// wayThere adds up the ways to the stops, one by one.
func wayThere(m *geo.Map, d api.Driver, orders []api.Order, stops []api.Stop) int {
	total, place := 0, d.Home
	for _, s := range stops {
		o := orders[slices.IndexFunc(orders, func(o api.Order) bool { return o.Id == s.Order })]
		to := o.Pick.Place
		if s.Drop {
			to = o.Drop.Place
		}
		way, _ := m.Time(place, to)
		total, place = total+way, to
	}
	return total
}

// priceThere returns what o costs more at i and j, and false if it does not fit there.
func priceThere(j job, at api.Spot) (int, bool) {
	if !slack.Fits(j.m, j.d, j.orders, j.r.Stops, j.o, at.Pick, at.Drop) {
		return 0, false
	}
	with := append(slices.Clone(j.orders), j.o)
	put := slack.Put(j.r.Stops, j.o.Id, at.Pick, at.Drop)
	return wayThere(j.m, j.d, with, put) - wayThere(j.m, j.d, j.orders, j.r.Stops), true
}

// fitsThere returns the positions at which o fits, with their prices.
func fitsThere(j job, open []api.Spot) []api.Spot {
	var l []api.Spot
	for _, at := range open {
		if price, ok := priceThere(j, at); ok {
			at.Cost = price
			l = append(l, at)
		}
	}
	return l
}

// choiceThere returns the answer where that many steps were made and o fits at these positions.
func choiceThere(fits []api.Spot, steps int) answer {
	if len(fits) == 0 {
		return nowhere(steps)
	}
	// MinFunc returns the first of several.
	return found(slices.MinFunc(fits, func(a, b api.Spot) int { return a.Cost - b.Cost }), steps)
}

func listedThere(orders []api.Order, id int) bool {
	return slices.ContainsFunc(orders, func(o api.Order) bool { return o.Id == id })
}

// bestThere is P12.2 by its words.
func bestThere(j job, budget int) answer {
	_, f := route.Drive(j.m, j.d, j.orders, j.r.Stops...)
	switch {
	case j.m == nil, deal.Driver(j.m, j.d) != api.OK, deal.Order(j.m, j.o) != api.OK, !deal.Known(j.m, j.orders):
		return refused(api.ErrArg)
	case listedThere(j.orders, j.o.Id), j.r.Driver != j.d.Id, j.r.Served < 0, j.r.Served > len(j.r.Stops):
		return refused(api.ErrArg)
	case budget < 0, budget > budgets, f.Why != api.OK:
		return refused(api.ErrArg)
	case j.d.Retired:
		return refused(api.ErrGone)
	case len(j.r.Stops) > crowd-2:
		return refused(api.ErrFull)
	}
	open := openThere(j.r)
	open = open[:min(len(open), budget)]
	return choiceThere(fitsThere(j, open), len(open))
}

// driver returns the driver of that Id, to be changed, or nil.
func (w world) driver(id int) *api.Driver {
	for i := range w.drivers {
		if w.drivers[i].Id == id {
			return &w.drivers[i]
		}
	}
	return nil
}

// job returns what Best is asked with for the route at k, whose driver is listed.
func (w world) job(k int) job {
	return job{m: w.m, d: *w.driver(w.plan[k].Driver), orders: w.orders, r: w.plan[k], o: w.o}
}

// together is P10.1 by its words.
func (w world) together() bool {
	for i, d := range w.drivers {
		if (world{drivers: w.drivers[i+1:]}).driver(d.Id) != nil || deal.Driver(w.m, d) != api.OK {
			return false
		}
	}
	return w.m != nil && len(w.drivers) <= fleet && deal.Known(w.m, w.orders) && plan.Right(w.plan)
}

// tryable reports whether the route at k is not skipped.
func (w world) tryable(k int) bool {
	return !w.driver(w.plan[k].Driver).Retired && len(w.plan[k].Stops) <= crowd-2
}

// cheapestThere is P12.3 by its words.
func cheapestThere(w world, budget int) answer {
	_, f := cert.Make(w.m, w.drivers, w.orders, w.plan)
	if !w.together() || !f.Good() || deal.Order(w.m, w.o) != api.OK || listedThere(w.orders, w.o.Id) || budget < 0 || budget > budgets {
		return refused(api.ErrArg)
	}
	var fits []api.Spot
	steps := 0
	for k, r := range w.plan {
		if w.tryable(k) {
			open := openThere(r)
			open = open[:min(len(open), budget-steps)]
			fits = append(fits, fitsThere(w.job(k), open)...)
			steps += len(open)
		}
	}
	return choiceThere(fits, steps)
}

// best calls Best and holds it against P12.2.
func best(t *testing.T, j job, budget int) answer {
	t.Helper()
	var a answer
	a.spot, a.steps, a.why = insert.Best(j.m, j.d, j.orders, j.r, j.o, budget)
	if want := bestThere(j, budget); a != want {
		t.Fatalf("Best(%+v, %d) = %v, not %v", j, budget, a, want)
	}
	return a
}

// cheapest calls Cheapest and holds it against P12.3.
func cheapest(t *testing.T, w world, budget int) answer {
	t.Helper()
	var a answer
	a.spot, a.steps, a.why = insert.Cheapest(w.m, w.drivers, w.orders, w.plan, w.o, budget)
	if want := cheapestThere(w, budget); a != want {
		t.Fatalf("Cheapest(%+v, %d) = %v, not %v", w, budget, a, want)
	}
	return a
}

func checkBest(t *testing.T, j job, budget int, want answer) {
	t.Helper()
	if a := best(t, j, budget); a != want {
		t.Fatalf("Best(%+v, %d) = %v, not %v", j, budget, a, want)
	}
}

func checkCheapest(t *testing.T, w world, budget int, want answer) {
	t.Helper()
	if a := cheapest(t, w, budget); a != want {
		t.Fatalf("Cheapest(%+v, %d) = %v, not %v", w, budget, a, want)
	}
}

// The bounds are those of the document's table.
func TestBounds(t *testing.T) {
	if api.MaxPlaces != places || api.MaxTime != longest || api.MaxSize != biggest || api.MaxId != highest {
		t.Error("package api has other bounds")
	}
	if api.MaxDrivers != fleet || api.MaxOrders != most || api.MaxStops != crowd || api.MaxBudget != budgets {
		t.Error("package api has other bounds")
	}
}

// The chapter's example runs.
func TestExampleRuns(t *testing.T) {
	j := example(t)
	checkBest(t, job{m: j.m, d: j.d, r: drive(4), o: j.orders[0]}, 9, found(spot(4, 0, 0, 12), 1))
	checkBest(t, j, 9, found(spot(4, 0, 1, 0), 6))
	checkBest(t, j, 2, found(spot(4, 0, 1, 0), 2))
	checkBest(t, j, 1, nowhere(1))
	checkBest(t, j, 0, nowhere(0))
	more := j
	more.r.Served = 3
	checkBest(t, more, 9, refused(api.ErrArg))
	retired := j
	retired.d.Retired = true
	checkBest(t, retired, 9, refused(api.ErrGone))

	other := j.d
	other.Id, other.Home = 5, 0
	w := world{m: j.m, drivers: []api.Driver{j.d, other}, orders: j.orders, plan: api.Plan{j.r, drive(5)}, o: j.o}
	checkCheapest(t, w, 100, found(spot(4, 0, 1, 0), 7))
}

// The remark on the example: with both stops of r ahead of p, o is picked up at 23, which is too late. With both behind q, r
// is delivered from 29 to 31, one behind the end of the driver's Window.
func TestExampleOneBehind(t *testing.T) {
	j := example(t)
	j.orders[0].Drop.To = 100
	for pick := 20; pick <= 25; pick++ {
		for until := 29; until <= 33; until++ {
			j.orders[0].Pick.To, j.d.To = pick, until
			ahead, behind := nowhere(1), nowhere(1)
			if pick >= 23 && until >= 31 {
				ahead = found(spot(4, 0, 0, 12), 1)
			}
			if until >= 31 {
				behind = found(spot(4, 2, 2, 12), 1)
			}
			j.r.Served = 0
			checkBest(t, j, 1, ahead)
			j.r.Served = 2
			checkBest(t, j, 1, behind)
		}
	}
}
