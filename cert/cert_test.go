package cert_test

import (
	"math"
	"slices"
	"testing"

	"dray/api"
	"dray/cert"
	"dray/deal"
	"dray/geo"
	"dray/plan"
	"dray/route"
	"dray/span"
)

const (
	// These hold the bounds anew, as the document's table of limits says them.
	places  = 12
	longest = 1000000
	biggest = 1000
	highest = 1000000
	fleet   = 8
	most    = 40
	crowd   = 80

	greatest = math.MaxInt
	least    = math.MinInt
)

// world is what a certificate is made for.
type world struct {
	m       *geo.Map
	drivers []api.Driver
	orders  []api.Order
	plan    api.Plan
}

func window(from, to int) api.Window { return api.Window{From: from, To: to} }

func site(place, from, to, service int) api.Site {
	return api.Site{Place: place, Window: window(from, to), Service: service}
}

func p(id int) api.Stop { return api.Stop{Order: id} }
func q(id int) api.Stop { return api.Stop{Order: id, Drop: true} }

func drive(driver int, stops ...api.Stop) api.Route { return api.Route{Driver: driver, Stops: stops} }

func visit(s api.Stop, arrive, begin, leave, load int) api.Visit {
	return api.Visit{Stop: s, Arrive: arrive, Begin: begin, Leave: leave, Load: load}
}

func made(t *testing.T, n int, times ...int) *geo.Map {
	t.Helper()
	m, why := geo.New(n, times...)
	if m == nil || why != api.OK {
		t.Fatalf("New(%d, %v) = %v, %d", n, times, m, why)
	}
	return m
}

// example is the world of the chapter's example runs, with its certificate.
func example(t *testing.T) (world, api.Cert) {
	t.Helper()
	return world{
		m:       made(t, 2, 0, 5, 7, 0),
		drivers: []api.Driver{{Id: 4, Room: 3, Home: 1, Window: window(1, 30)}},
		orders:  []api.Order{{Id: 1, Size: 3, Pick: site(0, 2, 9, 1), Drop: site(1, 0, 20, 2)}},
		plan:    api.Plan{drive(4, p(1), q(1))},
	}, api.Cert{{visit(p(1), 8, 8, 9, 3), visit(q(1), 14, 14, 16, 0)}}
}

// town is a world of four routes, one of them without stops, where arrivals fall ahead of the Windows, on both of their
// ends and between them, drivers are full and back in the last moment; and its certificate, written by hand.
func town(t *testing.T) (world, api.Cert) {
	t.Helper()
	w := world{m: made(t, 3, 0, 4, 9, 6, 0, 2, 3, 8, 0)}
	w.drivers = []api.Driver{
		{Id: 12, Room: 5, Home: 1, Window: window(0, 40)},
		{Id: 9, Room: 1, Home: 1, Window: window(7, 7)},
		{Id: 7, Room: 10, Home: 2, Window: window(5, 54)},
		{Id: 5, Room: 100, Home: 0, Window: window(0, longest)},
		{Id: 3, Room: 4, Home: 0, Window: window(2, 30), Retired: true},
	}
	w.orders = []api.Order{
		{Id: 60, Size: 5, Pick: site(1, 0, 0, 0), Drop: site(1, 40, 40, 0)},
		{Id: 30, Size: 2, Pick: site(0, 0, 20, 1), Drop: site(2, 30, 40, 2)},
		{Id: 10, Size: 7, Pick: site(1, 15, 25, 3), Drop: site(0, 10, 50, 0)},
		{Id: 70, Size: 1, Pick: site(2, 0, 99, 0), Drop: site(2, 0, 99, 0)},
		{Id: 20, Size: 1, Pick: site(2, 5, 5, 0), Drop: site(2, 0, 60, 10)},
		{Id: 40, Size: 4, Pick: site(0, 0, 2, 3), Drop: site(1, 9, 30, 0)},
		{Id: 50, Size: 2, Pick: site(2, 15, 20, 1), Drop: site(0, 10, 19, 11)},
	}
	w.plan = api.Plan{
		drive(3, p(40), q(40), p(50), q(50)),
		drive(7, p(20), p(30), p(10), q(30), q(10), q(20)),
		drive(9),
		drive(12, p(60), q(60)),
	}
	c := api.Cert{
		{visit(p(40), 2, 2, 5, 4), visit(q(40), 9, 9, 9, 0), visit(p(50), 11, 15, 16, 2), visit(q(50), 19, 19, 30, 0)},
		{
			visit(p(20), 5, 5, 5, 1), visit(p(30), 8, 8, 9, 3), visit(p(10), 13, 15, 18, 10),
			visit(q(30), 20, 30, 32, 8), visit(q(10), 35, 35, 35, 1), visit(q(20), 44, 44, 54, 0),
		},
		{},
		{visit(p(60), 0, 0, 0, 5), visit(q(60), 0, 40, 40, 0)},
	}
	return w, c
}

// loose is the town with no Window that is ever over, no Service without time and nobody who begins at 0.
func loose(t *testing.T) world {
	t.Helper()
	w, _ := town(t)
	for i := range w.drivers {
		w.drivers[i].Window = window(i+1, longest)
	}
	for i := range w.orders {
		o := &w.orders[i]
		o.Pick = site(o.Pick.Place, 0, longest, o.Pick.Service+1)
		o.Drop = site(o.Drop.Place, 0, longest, o.Drop.Service+1)
	}
	return w
}

// yard is a world of one place, where nothing takes time and n orders of size 1, with the Ids from 1 on, are all picked
// up and then all delivered; each of the drivers 10, 20, .. has as many as the others.
func yard(t *testing.T, drivers, n int) world {
	t.Helper()
	w := world{m: made(t, 1, 0)}
	for i := range n {
		w.orders = append(w.orders, api.Order{Id: i + 1, Size: 1, Pick: site(0, 0, longest, 0), Drop: site(0, 0, longest, 0)})
	}
	for k := range drivers {
		each := n / drivers
		r := drive(10 * (k + 1))
		for i := range 2 * each {
			r.Stops = append(r.Stops, api.Stop{Order: k*each + i%each + 1, Drop: i >= each})
		}
		w.plan = append(w.plan, r)
		w.drivers = append(w.drivers, api.Driver{Id: r.Driver, Room: max(each, 1), Window: window(10, 100)})
	}
	return w
}

// beyond holds numbers that neither an order nor a driver has.
func beyond() []int {
	return []int{0, -1, highest + 1, 1<<32 + 10, least, least + 1, greatest - 1, greatest}
}

func (w world) driver(id int) (api.Driver, bool) {
	for _, d := range w.drivers {
		if d.Id == id {
			return d, true
		}
	}
	return api.Driver{}, false
}

// site returns where a stop is made and how the load changes there, and false if there is no such order.
func (w world) site(s api.Stop) (api.Site, int, bool) {
	for _, o := range w.orders {
		if o.Id == s.Order && s.Drop {
			return o.Drop, -o.Size, true
		}
		if o.Id == s.Order {
			return o.Pick, o.Size, true
		}
	}
	return api.Site{}, 0, false
}

// together is P10.1 by its words.
func (w world) together() bool {
	for i, d := range w.drivers {
		if _, other := (world{drivers: w.drivers[i+1:]}).driver(d.Id); other || deal.Driver(w.m, d) != api.OK {
			return false
		}
	}
	return w.m != nil && len(w.drivers) <= fleet && deal.Known(w.m, w.orders) && plan.Right(w.plan)
}

// madeThere is P10.2 by its words.
func madeThere(w world) (api.Cert, api.Fault) {
	if !w.together() {
		return nil, api.Fault{Why: api.ErrArg}
	}
	var c api.Cert
	for i, r := range w.plan {
		d, known := w.driver(r.Driver)
		if !known {
			return nil, api.Fault{At: i, Why: api.ErrNone}
		}
		visits, fault := route.Drive(w.m, d, w.orders, r.Stops...)
		if !fault.Good() {
			return nil, api.Fault{At: i, Why: fault.Why}
		}
		c = append(c, visits)
	}
	return c, api.Fault{}
}

// checkedThere is P10.3 by its words.
func checkedThere(w world, c api.Cert) api.Fault {
	switch {
	case !w.together():
		return api.Fault{Why: api.ErrArg}
	case len(c) != len(w.plan):
		return api.Fault{Why: api.ErrForm}
	}
	for i, r := range w.plan {
		if why := listThere(w, r, c[i]); why != api.OK {
			return api.Fault{At: i, Why: why}
		}
	}
	return api.Fault{}
}

// listThere is what P10.3 says of one route.
func listThere(w world, r api.Route, l []api.Visit) api.Errno {
	d, known := w.driver(r.Driver)
	if !known {
		return api.ErrNone
	}
	if len(l) != len(r.Stops) {
		return api.ErrForm
	}
	for i := range l {
		if l[i].Order != r.Stops[i].Order || l[i].Drop != r.Stops[i].Drop {
			return api.ErrForm
		}
	}
	for i := range l {
		if why := visitThere(w, d, l[:i], l[i]); why != api.OK {
			return why
		}
	}
	if len(l) > 0 && l[len(l)-1].Load != 0 {
		return api.ErrLack
	}
	return api.OK
}

// visitThere is what P10.3 says of one Visit, behind others in which there is no Fault.
func visitThere(w world, d api.Driver, ahead []api.Visit, v api.Visit) api.Errno {
	here, more, known := w.site(v.Stop)
	if !known {
		return api.ErrNone
	}
	if v.Drop && !slices.ContainsFunc(ahead, func(a api.Visit) bool { return a.Order == v.Order && !a.Drop }) {
		return api.ErrFirst
	}
	place, left, load := d.Home, d.From, 0
	if n := len(ahead); n > 0 {
		last, _, _ := w.site(ahead[n-1].Stop)
		place, left, load = last.Place, ahead[n-1].Leave, ahead[n-1].Load
	}
	if v.Load != load+more || v.Load > d.Room {
		return api.ErrLoad
	}
	way, _ := w.m.Time(place, here.Place)
	begin, open := span.Begin(here.Window, v.Arrive)
	if v.Arrive != left+way || v.Begin != begin || !open || v.Leave != v.Begin+here.Service || v.Leave > d.To {
		return api.ErrLate
	}
	return api.OK
}

// onward returns the visits, which are the first ones of route k, with those of its other stops behind them, each as it
// comes from the one ahead if nothing is refused: nobody is late, too full or unknown.
func onward(w world, k int, visits ...api.Visit) []api.Visit {
	d, _ := w.driver(w.plan[k].Driver)
	place, time, load := d.Home, d.From, 0
	l := slices.Clone(visits)
	for i, s := range w.plan[k].Stops {
		here, more, known := w.site(s)
		if i >= len(visits) && known {
			way, _ := w.m.Time(place, here.Place)
			begin := max(time+way, here.From)
			l = append(l, visit(s, time+way, begin, begin+here.Service, load+more))
		} else if i >= len(visits) {
			l = append(l, visit(s, time, time, time, load))
		}
		place, time, load = here.Place, l[i].Leave, l[i].Load
	}
	return l
}

// walked returns what a certificate of w would be if nothing were refused.
func walked(w world) api.Cert {
	c := make(api.Cert, len(w.plan))
	for k := range c {
		c[k] = onward(w, k)
	}
	return c
}

// turned returns c with visit i of route k turned, and all behind it as they come from it then.
func turned(w world, c api.Cert, k, i int, turn func(v *api.Visit)) api.Cert {
	l := copied(c)
	turn(&l[k][i])
	l[k] = onward(w, k, l[k][:i+1]...)
	return l
}

// same reports whether the certificates are equal; a list that is nil equals an empty one.
func same(a, b api.Cert) bool {
	return slices.EqualFunc(a, b, func(x, y []api.Visit) bool { return slices.Equal(x, y) })
}

func copied(c api.Cert) api.Cert {
	var l api.Cert
	for _, visits := range c {
		l = append(l, slices.Clone(visits))
	}
	return l
}

// build calls Make and holds it against P10.2.
func build(t *testing.T, w world) (api.Cert, api.Fault) {
	t.Helper()
	c, f := cert.Make(w.m, w.drivers, w.orders, w.plan)
	if want, fault := madeThere(w); f != fault || !same(c, want) {
		t.Fatalf("Make(%+v) = %v, %v, not %v, %v", w, c, f, want, fault)
	}
	return c, f
}

// check calls Check and holds it against P10.3, and against P10.4: there is no Fault exactly if c is what Make returns.
func check(t *testing.T, w world, c api.Cert) api.Fault {
	t.Helper()
	f := cert.Check(w.m, w.drivers, w.orders, w.plan, c)
	if want := checkedThere(w, c); f != want {
		t.Fatalf("Check(%+v, %v) = %v, not %v", w, c, f, want)
	}
	real, fault := build(t, w)
	if f.Good() != (fault.Good() && same(c, real)) {
		t.Fatalf("Check(%+v, %v) = %v, and Make returns %v, %v", w, c, f, real, fault)
	}
	return f
}

func checkMade(t *testing.T, w world, want api.Cert) {
	t.Helper()
	if c, f := build(t, w); f != (api.Fault{}) || !same(c, want) {
		t.Fatalf("Make(%+v) = %v, %v, not %v", w, c, f, want)
	}
	checkFault(t, w, want, 0, api.OK)
}

func checkFault(t *testing.T, w world, c api.Cert, at int, why api.Errno) {
	t.Helper()
	if f := check(t, w, c); f != (api.Fault{At: at, Why: why}) {
		t.Fatalf("Check(%+v, %v) = %v, not %d at %d", w, c, f, why, at)
	}
}

// checkNotMade holds that Make finds a Fault in w, and Check the same one in what would be the certificate of w.
func checkNotMade(t *testing.T, w world, at int, why api.Errno) {
	t.Helper()
	if c, f := build(t, w); f != (api.Fault{At: at, Why: why}) || len(c) > 0 {
		t.Fatalf("Make(%+v) = %v, %v, not %d at %d", w, c, f, why, at)
	}
	checkFault(t, w, walked(w), at, why)
}

// The bounds are those of the document's table.
func TestBounds(t *testing.T) {
	if api.MaxPlaces != places || api.MaxTime != longest || api.MaxSize != biggest || api.MaxId != highest {
		t.Error("package api has other bounds")
	}
	if api.MaxDrivers != fleet || api.MaxOrders != most || api.MaxStops != crowd {
		t.Error("package api has other bounds")
	}
}

// The chapter's example runs.
func TestExampleRuns(t *testing.T) {
	w, c := example(t)
	checkMade(t, w, c)
	for _, run := range []struct {
		why  api.Errno
		turn func(c api.Cert) api.Cert
	}{
		{api.ErrLate, func(c api.Cert) api.Cert { c[0][1].Leave = 17; return c }},
		{api.ErrLoad, func(c api.Cert) api.Cert { c[0][0].Load = 2; return c }},
		{api.ErrForm, func(c api.Cert) api.Cert { return api.Cert{c[0][:1]} }},
		{api.ErrForm, func(c api.Cert) api.Cert { return nil }},
	} {
		checkFault(t, w, run.turn(copied(c)), 0, run.why)
	}
	none := w
	none.drivers = nil
	checkNotMade(t, none, 0, api.ErrNone)
	none = w
	none.orders = nil
	checkNotMade(t, none, 0, api.ErrNone)
}

// The document's first example of the whole: picked up at 8, delivered at 14.
func TestFirstExample(t *testing.T) {
	w, c := example(t)
	w.orders[0].Pick.Window, w.orders[0].Drop.Window = window(8, 8), window(14, 14)
	checkMade(t, w, c)
}

// P10.2 and P10.3: the certificate written by hand
func TestTown(t *testing.T) {
	w, c := town(t)
	checkMade(t, w, c)
	if !same(walked(w), c) {
		t.Errorf("the walk through the town is %v, not %v", walked(w), c)
	}
	// Each route for itself has its own list alone.
	for i := range w.plan {
		one := w
		one.plan = w.plan[i : i+1]
		checkMade(t, one, c[i:i+1])
		one.plan = w.plan[:i]
		checkMade(t, one, c[:i])
	}
	c = walked(loose(t))
	checkMade(t, loose(t), c)
}

// The chapter's ways: a Visit has the fields of its Stop.
func TestEmbeddedStops(t *testing.T) {
	w, _ := town(t)
	c, _ := cert.Make(w.m, w.drivers, w.orders, w.plan)
	for i, l := range c {
		for j, v := range l {
			if s := w.plan[i].Stops[j]; v.Order != s.Order || v.Drop != s.Drop || v.Stop != s {
				t.Errorf("visit %d of route %d is %+v, not of %+v", j, i, v, s)
			}
		}
	}
}
