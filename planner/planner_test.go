package planner_test

import (
	"cmp"
	"fmt"
	"math"
	"slices"
	"testing"

	"dray/api"
	"dray/audit"
	"dray/cert"
	"dray/deal"
	"dray/geo"
	"dray/insert"
	"dray/planner"
	"dray/repair"
	"dray/slack"
)

const (
	// These hold the bounds anew, as the document's table of limits says them.
	places  = 12
	longest = 1000000
	biggest = 1000
	highest = 1000000
	fleet   = 8
	most    = 40
	crowd   = 80
	budgets = 100000

	greatest = math.MaxInt
	least    = math.MinInt
)

// world is a book with its map.
type world struct {
	m *geo.Map
	b planner.Book
}

// answer is what a call returns; steps is of Mend alone.
type answer struct {
	b     planner.Book
	steps int
	why   api.Errno
}

// ask is a call with all that it is asked with but the world, and what it is to return by the chapter's words.
type ask struct {
	name        string
	call, there func(w world) answer
}

func window(from, to int) api.Window { return api.Window{From: from, To: to} }

func site(place, from, to, service int) api.Site {
	return api.Site{Place: place, Window: window(from, to), Service: service}
}

func p(id int) api.Stop { return api.Stop{Order: id} }
func q(id int) api.Stop { return api.Stop{Order: id, Drop: true} }

func drive(driver int, stops ...api.Stop) api.Route { return api.Route{Driver: driver, Stops: stops} }

// served returns a route of which so many stops are done.
func served(driver, count int, stops ...api.Stop) api.Route {
	return api.Route{Driver: driver, Served: count, Stops: stops}
}

func made(t *testing.T, n int, times ...int) *geo.Map {
	t.Helper()
	m, why := geo.New(n, times...)
	if m == nil || why != api.OK {
		t.Fatalf("New(%d, %v) = %v, %d", n, times, m, why)
	}
	return m
}

// line returns a map of n places in a row, with 10 between neighbours.
func line(t *testing.T, n int) *geo.Map {
	t.Helper()
	var times []int
	for a := range n {
		for b := range n {
			times = append(times, 10*max(a-b, b-a))
		}
	}
	return made(t, n, times...)
}

// errand returns an order of size 1 from one place to another, at any time, that takes no time by itself.
func errand(id, from, to int) api.Order {
	return api.Order{Id: id, Size: 1, Pick: site(from, 0, longest, 0), Drop: site(to, 0, longest, 0)}
}

// idler returns a driver that is at home at the place, with much room and all the time there is.
func idler(id, home int) api.Driver {
	return api.Driver{Id: id, Room: 9, Home: home, Window: window(0, longest)}
}

// book returns a book of these lists.
func book(drivers []api.Driver, orders []api.Order, routes ...api.Route) planner.Book {
	return planner.Book{Drivers: drivers, Orders: orders, Plan: routes}
}

// example is the world of the chapter's example runs, and the order o.
func example(t *testing.T) (world, api.Order) {
	t.Helper()
	d := api.Driver{Id: 4, Room: 3, Home: 1, Window: window(1, 30)}
	o := api.Order{Id: 1, Size: 3, Pick: site(0, 2, 9, 1), Drop: site(1, 0, 20, 2)}
	return world{made(t, 2, 0, 5, 7, 0), book([]api.Driver{d}, nil, drive(4))}, o
}

// lane is a world of four places in a row, where 4 is at home at 0 and drives with 20 from 0 to 2. Everything fits
// everywhere.
func lane(t *testing.T) world {
	t.Helper()
	return world{line(t, 4), book([]api.Driver{idler(4, 0)}, []api.Order{errand(20, 0, 2)}, drive(4, p(20), q(20)))}
}

// town is a world of five places in a row with the drivers 10, 20, 30 and 40: 10 has picked 2 up and has 6 yet to do, 20 has
// done 4 and all that 8 asks for, 30 has no stops and 40 nothing done.
func town(t *testing.T) world {
	t.Helper()
	drivers := []api.Driver{idler(10, 0), idler(20, 4), idler(30, 2), idler(40, 3)}
	orders := []api.Order{errand(2, 0, 1), errand(3, 1, 0), errand(4, 4, 3), errand(6, 3, 1), errand(8, 2, 2), errand(9, 3, 4)}
	return world{line(t, 5), book(drivers, orders,
		served(10, 1, p(2), p(6), q(2), q(6)), served(20, 4, p(4), q(4), p(8), q(8)), drive(30), drive(40, p(3), q(3), p(9), q(9)),
	)}
}

// short is a world whose map has a way from 0 to 2 that is longer than the one through 1: 4 has picked 7 up at 0 and has to
// be at 2 soon, which it is when it goes by the way of order 5 only. 6 is at home there and could do 5 as well.
func short(t *testing.T) world {
	t.Helper()
	drivers := []api.Driver{idler(4, 0), idler(6, 1)}
	orders := []api.Order{errand(5, 1, 1), errand(7, 0, 2)}
	orders[1].Drop.Window = window(0, 5)
	stops := []api.Stop{p(7), p(5), q(5), q(7)}
	return world{made(t, 3, 0, 1, 9, 9, 0, 1, 9, 9, 0), book(drivers, orders, served(4, 1, stops...), drive(6))}
}

// yards returns a world of one place with so many drivers, 10, 20, .., and n orders, 2, 4, .., all on the first one's route;
// nothing takes time, and everything fits everywhere.
func yards(t *testing.T, drivers, n int) world {
	t.Helper()
	w := world{m: made(t, 1, 0)}
	for k := range drivers {
		w.b.Drivers = append(w.b.Drivers, api.Driver{Id: 10 * (k + 1), Room: 2})
		w.b.Plan = append(w.b.Plan, drive(10*(k+1)))
	}
	for k := range n {
		id := 2 * (k + 1)
		w.b.Orders = append(w.b.Orders, errand(id, 0, 0))
		w.b.Plan[0].Stops = append(w.b.Plan[0].Stops, p(id), q(id))
	}
	return w
}

// beyond holds numbers that neither an order nor a driver has.
func beyond() []int {
	return []int{0, -1, highest + 1, 1<<32 + 4, least, least + 1, greatest - 1, greatest}
}

// wrongBudgets holds numbers that are not from 0 to MaxBudget.
func wrongBudgets() []int {
	return []int{-1, -2, budgets + 1, budgets + 2, 1 << 32, 1<<32 + 9, -1 << 32, least, least + 1, greatest - 1, greatest}
}

// copied returns b with lists of its own.
func copied(b planner.Book) planner.Book {
	b.Drivers, b.Orders, b.Plan = slices.Clone(b.Drivers), slices.Clone(b.Orders), slices.Clone(b.Plan)
	for k, r := range b.Plan {
		b.Plan[k].Stops = slices.Clone(r.Stops)
	}
	return b
}

// same reports whether the two books are one, however their lists are made.
func same(a, b planner.Book) bool {
	return slices.Equal(a.Drivers, b.Drivers) && slices.Equal(a.Orders, b.Orders) &&
		slices.EqualFunc(a.Plan, b.Plan, func(r, s api.Route) bool {
			return r.Driver == s.Driver && r.Served == s.Served && slices.Equal(r.Stops, s.Stops)
		})
}

func (a answer) is(b answer) bool {
	return same(a.b, b.b) && a.steps == b.steps && a.why == b.why
}

func refused(why api.Errno) answer { return answer{why: why} }

// rightThere is P14.1 by its words.
func rightThere(w world) bool {
	if len(audit.Audit(w.m, w.b.Drivers, w.b.Orders, w.b.Plan)) > 0 {
		return false
	}
	for i := range w.b.Drivers {
		if i > 0 && w.b.Drivers[i].Id <= w.b.Drivers[i-1].Id {
			return false
		}
		if !slices.ContainsFunc(w.b.Plan, func(r api.Route) bool { return r.Driver == w.b.Drivers[i].Id }) {
			return false
		}
	}
	for i := range w.b.Orders {
		if i > 0 && w.b.Orders[i].Id <= w.b.Orders[i-1].Id {
			return false
		}
	}
	return true
}

// gateThere is P14.2 by its words.
func gateThere(m *geo.Map, old, next planner.Book) answer {
	if !rightThere(world{m, next}) || !audit.Kept(old.Plan, next.Plan) {
		return refused(api.ErrGate)
	}
	return answer{b: next}
}

// driverThere returns the driver of that Id, to be changed, or nil.
func driverThere(b planner.Book, id int) *api.Driver {
	for i := range b.Drivers {
		if b.Drivers[i].Id == id {
			return &b.Drivers[i]
		}
	}
	return nil
}

// routeThere returns the route of the driver of that Id, to be changed, or nil.
func routeThere(b planner.Book, id int) *api.Route {
	for k := range b.Plan {
		if b.Plan[k].Driver == id {
			return &b.Plan[k]
		}
	}
	return nil
}

// orderThere returns the order of that Id, to be changed, or nil.
func orderThere(b planner.Book, id int) *api.Order {
	for i := range b.Orders {
		if b.Orders[i].Id == id {
			return &b.Orders[i]
		}
	}
	return nil
}

// begunThere reports whether a stop of the order is done.
func begunThere(b planner.Book, id int) bool {
	for _, r := range b.Plan {
		for i, s := range r.Stops {
			if s.Order == id && i < r.Served {
				return true
			}
		}
	}
	return false
}

// takenOut returns b without the order.
func takenOut(b planner.Book, id int) planner.Book {
	b = copied(b)
	b.Orders = slices.DeleteFunc(b.Orders, func(o api.Order) bool { return o.Id == id })
	for k := range b.Plan {
		b.Plan[k].Stops = slices.DeleteFunc(b.Plan[k].Stops, func(s api.Stop) bool { return s.Order == id })
	}
	return b
}

// putIn returns w with o where insert.Cheapest finds it, with its steps.
func putIn(w world, o api.Order, budget int) answer {
	s, steps, why := insert.Cheapest(w.m, w.b.Drivers, w.b.Orders, w.b.Plan, o, budget)
	if why != api.OK {
		return refused(why)
	}
	b := copied(w.b)
	b.Orders = append(b.Orders, o)
	slices.SortFunc(b.Orders, func(a, b api.Order) int { return cmp.Compare(a.Id, b.Id) })
	r := routeThere(b, s.Driver)
	r.Stops = slack.Put(r.Stops, o.Id, s.Pick, s.Drop)
	return answer{b: b, steps: steps}
}

// These are the parts of P14.3 by their words.

func placeThere(w world, o api.Order, budget int) answer {
	switch why := deal.Order(w.m, o); {
	case !rightThere(w) || budget < 0 || budget > budgets:
		return refused(api.ErrArg)
	case why != api.OK:
		return refused(why)
	case orderThere(w.b, o.Id) != nil:
		return refused(api.ErrTaken)
	case len(w.b.Orders) >= most:
		return refused(api.ErrFull)
	}
	a := putIn(w, o, budget)
	if a.why != api.OK {
		return a
	}
	return gateThere(w.m, w.b, a.b)
}

func dropThere(w world, id int) answer {
	switch {
	case !rightThere(w):
		return refused(api.ErrArg)
	case orderThere(w.b, id) == nil:
		return refused(api.ErrNone)
	case begunThere(w.b, id):
		return refused(api.ErrServed)
	}
	return gateThere(w.m, w.b, takenOut(w.b, id))
}

func hireThere(w world, d api.Driver) answer {
	switch why := deal.Driver(w.m, d); {
	case !rightThere(w):
		return refused(api.ErrArg)
	case why != api.OK:
		return refused(why)
	case d.Retired:
		return refused(api.ErrGone)
	case driverThere(w.b, d.Id) != nil:
		return refused(api.ErrTaken)
	case len(w.b.Drivers) >= fleet:
		return refused(api.ErrFull)
	}
	b := copied(w.b)
	b.Drivers, b.Plan = append(b.Drivers, d), append(b.Plan, drive(d.Id))
	slices.SortFunc(b.Drivers, func(a, b api.Driver) int { return cmp.Compare(a.Id, b.Id) })
	slices.SortFunc(b.Plan, func(a, b api.Route) int { return cmp.Compare(a.Driver, b.Driver) })
	return gateThere(w.m, w.b, b)
}

func retireThere(w world, id, budget int) answer {
	d := driverThere(w.b, id)
	switch {
	case !rightThere(w) || budget < 0 || budget > budgets:
		return refused(api.ErrArg)
	case d == nil:
		return refused(api.ErrNone)
	case d.Retired:
		return refused(api.ErrGone)
	}
	old, b := w.b, copied(w.b)
	driverThere(b, id).Retired = true
	var away []api.Order
	for _, s := range routeThere(old, id).Stops {
		if !s.Drop && !begunThere(old, s.Order) {
			away = append(away, *orderThere(old, s.Order))
			b = takenOut(b, s.Order)
		}
	}
	if _, f := cert.Make(w.m, b.Drivers, b.Orders, b.Plan); !f.Good() {
		return refused(api.ErrGate)
	}
	slices.SortFunc(away, func(a, b api.Order) int { return cmp.Compare(a.Id, b.Id) })
	for _, o := range away {
		a := putIn(world{w.m, b}, o, budget)
		if a.why != api.OK {
			return refused(api.ErrRoute)
		}
		b, budget = a.b, budget-a.steps
	}
	return gateThere(w.m, old, b)
}

func serveThere(w world, id, count int) answer {
	switch {
	case !rightThere(w):
		return refused(api.ErrArg)
	case driverThere(w.b, id) == nil:
		return refused(api.ErrNone)
	}
	b := copied(w.b)
	r := routeThere(b, id)
	if count < 1 || count > len(r.Stops)-r.Served {
		return refused(api.ErrArg)
	}
	r.Served += count
	return answer{b: b}
}

func mendThere(w world, budget int) answer {
	if !rightThere(w) || budget < 0 || budget > budgets {
		return refused(api.ErrArg)
	}
	next, steps, _, _ := repair.Repair(w.m, w.b.Drivers, w.b.Orders, w.b.Plan, budget)
	a := gateThere(w.m, w.b, book(w.b.Drivers, w.b.Orders, next...))
	if a.why == api.OK {
		a.steps = steps
	}
	return a
}

// gate asks Gate whether the world's book may come next.
func gate(old planner.Book) ask {
	return ask{fmt.Sprintf("Gate from %+v", old), func(w world) answer {
		b, why := planner.Gate(w.m, old, w.b)
		return answer{b: b, why: why}
	}, func(w world) answer { return gateThere(w.m, old, w.b) }}
}

func place(o api.Order, budget int) ask {
	return ask{fmt.Sprintf("Place of %+v with %d", o, budget), func(w world) answer {
		b, why := planner.Place(w.m, w.b, o, budget)
		return answer{b: b, why: why}
	}, func(w world) answer { return placeThere(w, o, budget) }}
}

func drop(id int) ask {
	return ask{fmt.Sprintf("Drop of %d", id), func(w world) answer {
		b, why := planner.Drop(w.m, w.b, id)
		return answer{b: b, why: why}
	}, func(w world) answer { return dropThere(w, id) }}
}

func hire(d api.Driver) ask {
	return ask{fmt.Sprintf("Hire of %+v", d), func(w world) answer {
		b, why := planner.Hire(w.m, w.b, d)
		return answer{b: b, why: why}
	}, func(w world) answer { return hireThere(w, d) }}
}

func retire(id, budget int) ask {
	return ask{fmt.Sprintf("Retire of %d with %d", id, budget), func(w world) answer {
		b, why := planner.Retire(w.m, w.b, id, budget)
		return answer{b: b, why: why}
	}, func(w world) answer { return retireThere(w, id, budget) }}
}

func serve(id, count int) ask {
	return ask{fmt.Sprintf("Serve of %d, %d more", id, count), func(w world) answer {
		b, why := planner.Serve(w.m, w.b, id, count)
		return answer{b: b, why: why}
	}, func(w world) answer { return serveThere(w, id, count) }}
}

func mend(budget int) ask {
	return ask{fmt.Sprintf("Mend with %d", budget), func(w world) answer {
		b, steps, why := planner.Mend(w.m, w.b, budget)
		return answer{b, steps, why}
	}, func(w world) answer { return mendThere(w, budget) }}
}

// asked makes the call and holds it against the chapter's words.
func asked(t *testing.T, w world, c ask) answer {
	t.Helper()
	a := c.call(w)
	if want := c.there(w); !a.is(want) {
		t.Fatalf("%s, on %+v, = %+v, not %+v", c.name, w, a, want)
	}
	return a
}

// check holds that the call is refused for that reason.
func check(t *testing.T, w world, c ask, why api.Errno) {
	t.Helper()
	if a := asked(t, w, c); !a.is(refused(why)) {
		t.Fatalf("%s, on %+v, = %+v, not %d", c.name, w, a, why)
	}
}

// checkBook holds that the call returns that book, and how many steps.
func checkBook(t *testing.T, w world, c ask, want planner.Book, steps int) world {
	t.Helper()
	a := asked(t, w, c)
	if !a.is(answer{b: want, steps: steps}) {
		t.Fatalf("%s, on %+v, = %+v, not %+v", c.name, w, a, want)
	}
	return world{w.m, a.b}
}

// right calls Right and holds it against P14.1.
func right(t *testing.T, w world) bool {
	t.Helper()
	ok := planner.Right(w.m, w.b)
	if want := rightThere(w); ok != want {
		t.Fatalf("Right(%+v) = %v", w, ok)
	}
	return ok
}

func checkRight(t *testing.T, w world, want bool) {
	t.Helper()
	if right(t, w) != want {
		t.Fatalf("Right(%+v) = %v", w, !want)
	}
}

// The bounds are those of the document's table.
func TestBounds(t *testing.T) {
	if api.MaxPlaces != places || api.MaxTime != longest || api.MaxSize != biggest || api.MaxId != highest {
		t.Error("package api has other bounds")
	}
	if api.MaxDrivers != fleet || api.MaxOrders != most || api.MaxStops != crowd || api.MaxBudget != budgets {
		t.Error("package api has other bounds")
	}
}

// The chapter's example runs.
func TestExampleRuns(t *testing.T) {
	w, o := example(t)
	d := w.b.Drivers[0]
	checkRight(t, world{m: w.m}, true)
	checkRight(t, w, true)
	that := checkBook(t, w, place(o, 9), book(w.b.Drivers, []api.Order{o}, drive(4, p(1), q(1))), 0)
	check(t, w, place(o, 0), api.ErrRoute)
	check(t, that, place(o, 9), api.ErrTaken)
	check(t, w, drop(1), api.ErrNone)
	check(t, that, retire(4, 9), api.ErrRoute)
	check(t, w, hire(d), api.ErrTaken)
	begun := checkBook(t, that, serve(4, 1), book(w.b.Drivers, []api.Order{o}, served(4, 1, p(1), q(1))), 0)
	check(t, begun, drop(1), api.ErrServed)
	check(t, that, serve(4, 3), api.ErrArg)
	gone := d
	gone.Retired = true
	w = checkBook(t, w, retire(4, 9), book([]api.Driver{gone}, nil, drive(4)), 0)
	check(t, w, place(o, 9), api.ErrRoute)
}
