package audit_test

import (
	"math"
	"slices"
	"testing"

	"dray/api"
	"dray/audit"
	"dray/cert"
	"dray/deal"
	"dray/geo"
	"dray/plan"
)

const (
	// These hold the bounds anew, as the document's table of limits says them.
	places  = 12
	longest = 1000000
	biggest = 1000
	highest = 1000000
	fleet   = 8
	most    = 40
	crowd   = 80

	greatest = math.MaxInt
	least    = math.MinInt
)

// world is what a plan is audited with.
type world struct {
	m       *geo.Map
	drivers []api.Driver
	orders  []api.Order
	plan    api.Plan
}

func window(from, to int) api.Window { return api.Window{From: from, To: to} }

func site(place, from, to, service int) api.Site {
	return api.Site{Place: place, Window: window(from, to), Service: service}
}

func p(id int) api.Stop { return api.Stop{Order: id} }
func q(id int) api.Stop { return api.Stop{Order: id, Drop: true} }

func drive(driver int, stops ...api.Stop) api.Route { return api.Route{Driver: driver, Stops: stops} }

func trouble(driver, order int, why api.Errno) api.Trouble {
	return api.Trouble{Driver: driver, Order: order, Why: why}
}

// misses returns what is told of orders that stand nowhere.
func misses(orders ...int) []api.Trouble {
	var l []api.Trouble
	for _, id := range orders {
		l = append(l, trouble(0, id, api.ErrMiss))
	}
	return l
}

func made(t *testing.T, n int, times ...int) *geo.Map {
	t.Helper()
	m, why := geo.New(n, times...)
	if m == nil || why != api.OK {
		t.Fatalf("New(%d, %v) = %v, %d", n, times, m, why)
	}
	return m
}

// example is the world of the chapter's example runs.
func example(t *testing.T) world {
	t.Helper()
	return world{
		m:       made(t, 2, 0, 5, 7, 0),
		drivers: []api.Driver{{Id: 4, Room: 3, Home: 1, Window: window(1, 30)}},
		orders:  []api.Order{{Id: 1, Size: 3, Pick: site(0, 2, 9, 1), Drop: site(1, 0, 20, 2)}},
		plan:    api.Plan{drive(4, p(1), q(1))},
	}
}

// town is a world of four routes, one of them without stops, where arrivals fall ahead of the Windows, on both of their
// ends and between them, drivers are full and back in the last moment. Nothing is wrong with it but that 70 stands nowhere.
func town(t *testing.T) world {
	t.Helper()
	w := world{m: made(t, 3, 0, 4, 9, 6, 0, 2, 3, 8, 0)}
	w.drivers = []api.Driver{
		{Id: 12, Room: 5, Home: 1, Window: window(0, 40)},
		{Id: 9, Room: 1, Home: 1, Window: window(7, 7)},
		{Id: 7, Room: 10, Home: 2, Window: window(5, 54)},
		{Id: 5, Room: 100, Home: 0, Window: window(0, longest)},
		{Id: 3, Room: 4, Home: 0, Window: window(2, 30), Retired: true},
	}
	w.orders = []api.Order{
		{Id: 60, Size: 5, Pick: site(1, 0, 0, 0), Drop: site(1, 40, 40, 0)},
		{Id: 30, Size: 2, Pick: site(0, 0, 20, 1), Drop: site(2, 30, 40, 2)},
		{Id: 10, Size: 7, Pick: site(1, 15, 25, 3), Drop: site(0, 10, 50, 0)},
		{Id: 70, Size: 1, Pick: site(2, 0, 99, 0), Drop: site(2, 0, 99, 0)},
		{Id: 20, Size: 1, Pick: site(2, 5, 5, 0), Drop: site(2, 0, 60, 10)},
		{Id: 40, Size: 4, Pick: site(0, 0, 2, 3), Drop: site(1, 9, 30, 0)},
		{Id: 50, Size: 2, Pick: site(2, 15, 20, 1), Drop: site(0, 10, 19, 11)},
	}
	w.plan = api.Plan{
		drive(3, p(40), q(40), p(50), q(50)),
		drive(7, p(20), p(30), p(10), q(30), q(10), q(20)),
		drive(9),
		drive(12, p(60), q(60)),
	}
	return w
}

// loose is the town with no Window that is ever over, no Service without time and nobody who begins at 0.
func loose(t *testing.T) world {
	t.Helper()
	w := town(t)
	for i := range w.drivers {
		w.drivers[i].Window = window(i+1, longest)
	}
	for i := range w.orders {
		o := &w.orders[i]
		o.Pick = site(o.Pick.Place, 0, longest, o.Pick.Service+1)
		o.Drop = site(o.Drop.Place, 0, longest, o.Drop.Service+1)
	}
	return w
}

// yard is a world of one place, where nothing takes time and n orders of size 1, with the Ids from 1 on, are all picked
// up and then all delivered; each of the drivers 10, 20, .. has as many as the others, and is full with them.
func yard(t *testing.T, drivers, n int) world {
	t.Helper()
	w := world{m: made(t, 1, 0)}
	for i := range n {
		w.orders = append(w.orders, api.Order{Id: i + 1, Size: 1, Pick: site(0, 0, longest, 0), Drop: site(0, 0, longest, 0)})
	}
	for k := range drivers {
		each := n / drivers
		r := drive(10 * (k + 1))
		for i := range 2 * each {
			r.Stops = append(r.Stops, api.Stop{Order: k*each + i%each + 1, Drop: i >= each})
		}
		w.plan = append(w.plan, r)
		w.drivers = append(w.drivers, api.Driver{Id: r.Driver, Room: max(each, 1), Window: window(10, 100)})
	}
	return w
}

// beyond holds numbers that neither an order nor a driver has.
func beyond() []int {
	return []int{0, -1, highest + 1, 1<<32 + 10, least, least + 1, greatest - 1, greatest}
}

// driver returns the driver of that Id, to be changed, or nil.
func (w world) driver(id int) *api.Driver {
	for i := range w.drivers {
		if w.drivers[i].Id == id {
			return &w.drivers[i]
		}
	}
	return nil
}

// site returns where a stop is made, to be changed, with the size of its order, or nil if there is no such order.
func (w world) site(s api.Stop) (*api.Site, int) {
	for i := range w.orders {
		if o := &w.orders[i]; o.Id == s.Order && s.Drop {
			return &o.Drop, o.Size
		} else if o.Id == s.Order {
			return &o.Pick, o.Size
		}
	}
	return nil, 0
}

// copied returns w with lists of its own.
func copied(w world) world {
	w.drivers, w.orders, w.plan = slices.Clone(w.drivers), slices.Clone(w.orders), slices.Clone(w.plan)
	for k, r := range w.plan {
		w.plan[k].Stops = slices.Clone(r.Stops)
	}
	return w
}

// together is P10.1 by its words.
func (w world) together() bool {
	for i, d := range w.drivers {
		if (world{drivers: w.drivers[i+1:]}).driver(d.Id) != nil || deal.Driver(w.m, d) != api.OK {
			return false
		}
	}
	return w.m != nil && len(w.drivers) <= fleet && deal.Known(w.m, w.orders) && plan.Right(w.plan)
}

// auditedThere is P11.1 by its words.
func auditedThere(w world) []api.Trouble {
	if !w.together() {
		return []api.Trouble{trouble(0, 0, api.ErrArg)}
	}
	var l []api.Trouble
	for _, r := range w.plan {
		l = append(l, routeThere(w, r)...)
	}
	for _, o := range w.orders {
		if !standsThere(w, o.Id) {
			l = append(l, trouble(0, o.Id, api.ErrMiss))
		}
	}
	return l
}

func standsThere(w world, order int) bool {
	return slices.ContainsFunc(w.plan, func(r api.Route) bool {
		return slices.ContainsFunc(r.Stops, func(s api.Stop) bool { return s.Order == order })
	})
}

// routeThere is what P11.1 says of one route: what is told of each stop is worked out for itself, from Home on.
func routeThere(w world, r api.Route) []api.Trouble {
	d := w.driver(r.Driver)
	if d == nil {
		return []api.Trouble{trouble(r.Driver, 0, api.ErrNone)}
	}
	var l []api.Trouble
	tell := func(s api.Stop, why api.Errno, holds bool) {
		if holds {
			l = append(l, trouble(d.Id, s.Order, why))
		}
	}
	for i, s := range r.Stops {
		here, _ := w.site(s)
		tell(s, api.ErrNone, here == nil)
		if here != nil {
			begin, leave := servedThere(w, *d, r.Stops[:i+1])
			tell(s, api.ErrFirst, s.Drop && !slices.Contains(r.Stops[:i], p(s.Order)))
			tell(s, api.ErrLoad, !s.Drop && loadThere(w, r.Stops[:i+1]) > d.Room)
			tell(s, api.ErrLate, begin > here.Window.To || leave > d.Window.To)
		}
	}
	for i, s := range r.Stops {
		here, _ := w.site(s)
		tell(s, api.ErrLack, here != nil && !s.Drop && !slices.Contains(r.Stops[i:], q(s.Order)))
	}
	return l
}

// loadThere returns the load behind stops: what was picked up, without what was delivered behind its pickup.
func loadThere(w world, stops []api.Stop) int {
	load := 0
	for i, s := range stops {
		_, size := w.site(s)
		if !s.Drop {
			load += size
		} else if slices.Contains(stops[:i], p(s.Order)) {
			load -= size
		}
	}
	return load
}

// servedThere returns when d begins and leaves the last of stops, which are made one behind the other but for those of no
// order.
func servedThere(w world, d api.Driver, stops []api.Stop) (int, int) {
	place, begin, leave := d.Home, d.Window.From, d.Window.From
	for _, s := range stops {
		here, _ := w.site(s)
		if here == nil {
			continue
		}
		way, _ := w.m.Time(place, here.Place)
		begin = leave + way
		if begin < here.Window.From {
			begin = here.Window.From
		}
		place, leave = here.Place, begin+here.Service
	}
	return begin, leave
}

// audited calls Audit and holds it against P11.1, and against P11.3: there are no Troubles exactly if Make finds no Fault
// and every order stands.
func audited(t *testing.T, w world) []api.Trouble {
	t.Helper()
	l := audit.Audit(w.m, w.drivers, w.orders, w.plan)
	if want := auditedThere(w); !slices.Equal(l, want) {
		t.Fatalf("Audit(%+v) = %v, not %v", w, l, want)
	}
	_, f := cert.Make(w.m, w.drivers, w.orders, w.plan)
	all := !slices.ContainsFunc(w.orders, func(o api.Order) bool { return !standsThere(w, o.Id) })
	if (len(l) == 0) != (f.Good() && all) {
		t.Fatalf("Audit(%+v) = %v, and Make finds %v", w, l, f)
	}
	return l
}

// check holds that Audit tells want of w, and nothing else.
func check(t *testing.T, w world, want ...api.Trouble) {
	t.Helper()
	if l := audited(t, w); !slices.Equal(l, want) {
		t.Fatalf("Audit(%+v) = %v, not %v", w, l, want)
	}
}

// The bounds are those of the document's table.
func TestBounds(t *testing.T) {
	if api.MaxPlaces != places || api.MaxTime != longest || api.MaxSize != biggest || api.MaxId != highest {
		t.Error("package api has other bounds")
	}
	if api.MaxDrivers != fleet || api.MaxOrders != most || api.MaxStops != crowd {
		t.Error("package api has other bounds")
	}
}

// The chapter's example runs.
func TestExampleRuns(t *testing.T) {
	w := example(t)
	check(t, w)
	w.plan = api.Plan{drive(4, q(1), p(1))}
	check(t, w, trouble(4, 1, api.ErrFirst), trouble(4, 1, api.ErrLate), trouble(4, 1, api.ErrLack))
	w.plan = nil
	check(t, w, trouble(0, 1, api.ErrMiss))
	w = example(t)
	w.drivers = nil
	check(t, w, trouble(4, 0, api.ErrNone))
	w = example(t)
	w.orders = nil
	check(t, w, trouble(4, 1, api.ErrNone), trouble(4, 1, api.ErrNone))

	w = example(t)
	done := api.Plan{{Driver: 4, Served: 1, Stops: w.plan[0].Stops}}
	checkKept(t, w.plan, w.plan, true)
	checkKept(t, done, w.plan, false)
	checkKept(t, w.plan, done, false)
}

// The remark on the example: on the way over 1, the driver is at 0 at 10, one behind the end of the Window.
func TestExampleOneBehind(t *testing.T) {
	w := example(t)
	w.plan = api.Plan{drive(4, q(1), p(1))}
	w.orders[0].Pick.Window = window(2, 10)
	check(t, w, trouble(4, 1, api.ErrFirst), trouble(4, 1, api.ErrLack))
	w.drivers[0].Window = window(1, 11)
	check(t, w, trouble(4, 1, api.ErrFirst), trouble(4, 1, api.ErrLack))
	w.drivers[0].Window = window(1, 10)
	check(t, w, trouble(4, 1, api.ErrFirst), trouble(4, 1, api.ErrLate), trouble(4, 1, api.ErrLack))
	w.drivers[0].Window = window(1, 2)
	check(t, w, trouble(4, 1, api.ErrFirst), trouble(4, 1, api.ErrLate), trouble(4, 1, api.ErrLate), trouble(4, 1, api.ErrLack))
}

// P11.1: a town in which nothing is wrong but that an order stands nowhere; with each of its routes alone, and with the
// first ones
func TestTown(t *testing.T) {
	w := town(t)
	check(t, w, misses(70)...)
	check(t, loose(t), misses(70)...)
	for k, missing := range [][]int{{60, 30, 10, 70, 20}, {60, 70, 40, 50}, {60, 30, 10, 70, 20, 40, 50}, {30, 10, 70, 20, 40, 50}} {
		one := w
		one.plan = w.plan[k : k+1]
		check(t, one, misses(missing...)...)
	}
	for k, missing := range [][]int{{60, 30, 10, 70, 20, 40, 50}, {60, 30, 10, 70, 20}, {60, 70}, {60, 70}, {70}} {
		one := w
		one.plan = w.plan[:k]
		check(t, one, misses(missing...)...)
	}
	w.orders = slices.DeleteFunc(w.orders, func(o api.Order) bool { return o.Id == 70 })
	check(t, w)
}

// P11.1: no routes and routes without stops, with drivers and orders or none
func TestNothingToDo(t *testing.T) {
	w := town(t)
	all := misses(60, 30, 10, 70, 20, 40, 50)
	for _, a := range []api.Plan{nil, {}, {drive(3), drive(5), drive(7), drive(9), drive(12)}, {drive(9)}} {
		other := w
		other.plan = a
		check(t, other, all...)
		for _, none := range [][]api.Order{nil, {}} {
			other.orders = none
			check(t, other)
		}
		for i := range a {
			// What is told of a route without stops is at most that its driver is not there.
			other.plan = slices.Clone(a)
			other.plan[i].Driver++
			check(t, other, trouble(other.plan[i].Driver, 0, api.ErrNone))
		}
		other.drivers, other.plan = nil, nil
		check(t, other)
		other.orders = w.orders
		check(t, other, all...)
	}
}

// The chapter's ways: a Site has the fields of its Window, and so has a Driver.
func TestPromotedFields(t *testing.T) {
	w := example(t)
	o, d := &w.orders[0], &w.drivers[0]
	o.Pick.From, o.Pick.To, o.Drop.From, o.Drop.To, d.From, d.To = 8, 8, 14, 14, 1, 16
	check(t, w)
	o.Pick.From, o.Pick.To = 7, 7
	check(t, w, trouble(4, 1, api.ErrLate))
	o.Pick.To, o.Drop.To, o.Drop.From = 9, 13, 13
	check(t, w, trouble(4, 1, api.ErrLate))
	o.Drop.To = 99
	d.From = 2
	check(t, w, trouble(4, 1, api.ErrLate))
	d.To = 17
	check(t, w)
}
