package cert_test

import (
	"math/rand"
	"slices"
	"testing"

	"dray/api"
	"dray/cert"
	"dray/geo"
	"dray/route"
	"dray/slack"
)

// mixer makes worlds and certificates, the same ones in every run.
type mixer struct{ *rand.Rand }

func mixed(seed int64) mixer { return mixer{rand.New(rand.NewSource(seed))} }

func (x mixer) roads(t *testing.T, n int) *geo.Map {
	t.Helper()
	times := make([]int, n*n)
	for i := range times {
		if i/n != i%n {
			times[i] = x.Intn(6)
		}
	}
	return made(t, n, times...)
}

func (x mixer) site(n int) api.Site {
	from := x.Intn(30)
	return site(x.Intn(n), from, from+x.Intn(60), x.Intn(4))
}

// idle returns a world that is right, with up to MaxDrivers drivers and some orders, both of strewn Ids, and a route
// without stops for most of the drivers.
func (x mixer) idle(t *testing.T) world {
	t.Helper()
	n := 1 + x.Intn(5)
	w := world{m: x.roads(t, n)}
	for _, id := range x.Perm(30)[:x.Intn(fleet+1)] {
		d := api.Driver{Id: id + 1, Room: 1 + x.Intn(8), Home: x.Intn(n), Retired: x.Intn(4) == 0}
		d.Window = window(x.Intn(12), 20+x.Intn(100))
		w.drivers = append(w.drivers, d)
		if x.Intn(6) > 0 {
			w.plan = append(w.plan, drive(d.Id))
		}
	}
	slices.SortFunc(w.plan, func(a, b api.Route) int { return a.Driver - b.Driver })
	for _, id := range x.Perm(40)[:x.Intn(15)] {
		w.orders = append(w.orders, api.Order{Id: id + 1, Size: 1 + x.Intn(4), Pick: x.site(n), Drop: x.site(n)})
	}
	return w
}

// right returns a world whose plan has a certificate: the orders are put in where they fit, if that is found soon.
func (x mixer) right(t *testing.T) world {
	t.Helper()
	w := x.idle(t)
	for _, o := range w.orders {
		for range min(len(w.plan)*5, 20) {
			r := &w.plan[x.Intn(len(w.plan))]
			i := x.Intn(len(r.Stops) + 1)
			stops := slack.Put(r.Stops, o.Id, i, i+x.Intn(len(r.Stops)-i+1))
			d, _ := w.driver(r.Driver)
			if _, f := route.Drive(w.m, d, w.orders, stops...); f.Good() {
				r.Stops = stops
				break
			}
		}
	}
	for i := range w.plan {
		w.plan[i].Served = x.Intn(len(w.plan[i].Stops) + 1)
	}
	return w
}

// spoiled returns a world whose plan may have no certificate, or be no plan at all.
func (x mixer) spoiled(t *testing.T) world {
	t.Helper()
	w := x.right(t)
	for n := 1 + x.Intn(3); n > 0; n-- {
		if len(w.plan) > 0 && x.Intn(2) == 0 {
			x.spoilRoute(w, x.Intn(len(w.plan)))
		} else {
			x.spoilWorld(&w)
		}
	}
	return w
}

// spoilRoute changes the stops of route k: two of them change places, one goes or goes to another route, or one comes in.
func (x mixer) spoilRoute(w world, k int) {
	r := &w.plan[k]
	r.Served = 0
	if len(r.Stops) == 0 || x.Intn(8) == 0 {
		r.Stops = slices.Insert(slices.Clone(r.Stops), x.Intn(len(r.Stops)+1), api.Stop{Order: 1 + x.Intn(45), Drop: x.Intn(2) == 0})
		return
	}
	i, j := x.Intn(len(r.Stops)), x.Intn(len(r.Stops))
	switch s := r.Stops[i]; x.Intn(4) {
	case 0, 1:
		r.Stops[i], r.Stops[j] = r.Stops[j], r.Stops[i]
	case 2:
		r.Stops = slices.Delete(slices.Clone(r.Stops), i, i+1)
	case 3:
		r.Stops = slices.Delete(slices.Clone(r.Stops), i, i+1)
		other := &w.plan[x.Intn(len(w.plan))]
		other.Stops = slices.Insert(slices.Clone(other.Stops), x.Intn(len(other.Stops)+1), s)
	}
}

// spoilWorld changes a driver or an order, or the number of a route.
func (x mixer) spoilWorld(w *world) {
	if len(w.drivers) > 0 {
		d := &w.drivers[x.Intn(len(w.drivers))]
		switch x.Intn(12) {
		case 0, 1:
			d.Room = max(d.Room-x.Intn(3), 1-x.Intn(2))
		case 2, 3:
			d.To = max(d.To-x.Intn(40), d.From)
		case 4:
			d.Id = 1 + x.Intn(60)
		case 5:
			d.Home = x.Intn(w.m.Places())
		case 6:
			d.From += x.Intn(5)
		}
	}
	if len(w.orders) > 0 {
		o := &w.orders[x.Intn(len(w.orders))]
		switch x.Intn(12) {
		case 0, 1:
			o.Size += x.Intn(3)
		case 2:
			o.Id = 1 + x.Intn(60)
		case 3:
			o.Drop.To = o.Drop.From
		case 4:
			o.Pick.Service += x.Intn(20)
		}
	}
	if len(w.plan) > 0 && x.Intn(12) == 0 {
		w.plan[x.Intn(len(w.plan))].Driver += x.Intn(3)
	}
}

// tampered returns c with some changes: of numbers, stops, lists, and of all that comes from a Visit.
func (x mixer) tampered(w world, c api.Cert) api.Cert {
	c = copied(c)
	for n := 1 + x.Intn(3); n > 0; n-- {
		if len(c) == 0 || x.Intn(20) == 0 {
			c = append(c, []api.Visit{{}}[:x.Intn(2)])
			continue
		}
		k := x.Intn(len(c))
		if len(c[k]) == 0 {
			continue
		}
		i, moved := x.Intn(len(c[k])), x.Intn(7)-3
		field := numbers()[1+x.Intn(4)]
		switch {
		case x.Intn(15) == 0:
			c[k] = slices.Delete(c[k], i, i+1)
		case x.Intn(30) == 0:
			c = slices.Delete(c, k, k+1)
		case x.Intn(15) == 0:
			c[k][i].Stop = api.Stop{Order: x.Intn(45), Drop: x.Intn(2) == 0}
		case x.Intn(2) == 0 || k >= len(w.plan) || i >= len(w.plan[k].Stops):
			*field.of(&c[k][i]) += moved
		default:
			*field.of(&c[k][i]) += moved
			c[k] = onward(w, k, c[k][:i+1]...)
		}
	}
	return c
}

// checkCounts holds that each error was told often enough for the test to mean something.
func checkCounts(t *testing.T, counts map[api.Errno]int, least int, errs ...api.Errno) {
	t.Helper()
	for _, why := range errs {
		if counts[why] < least {
			t.Errorf("%d of %v: too few", why, counts)
		}
	}
}

// P10.2 and P10.4: Check finds no Fault in what Make returns.
func TestMixedRight(t *testing.T) {
	x := mixed(10)
	visits, routes := 0, 0
	for range 6000 {
		w := x.right(t)
		checkMade(t, w, walked(w))
		for _, r := range w.plan {
			visits += len(r.Stops)
			routes += min(len(r.Stops), 1)
		}
	}
	if visits < 20000 || routes < 5000 {
		t.Errorf("%d visits on %d routes: too few", visits, routes)
	}
}

// P10.2, P10.3 and P10.4: plans that may have a certificate or not. Check finds in what would be the certificate the same
// Fault as Make, whichever that is.
func TestMixedSpoiled(t *testing.T) {
	x := mixed(11)
	counts := map[api.Errno]int{}
	behind := 0
	for range 20000 {
		w := x.spoiled(t)
		_, f := build(t, w)
		checkFault(t, w, walked(w), f.At, f.Why)
		counts[f.Why]++
		behind += min(f.At, 1)
	}
	checkCounts(t, counts, 200, api.OK, api.ErrArg, api.ErrNone, api.ErrFirst, api.ErrLoad, api.ErrLate, api.ErrLack)
	if behind < 2000 {
		t.Errorf("%d Faults were behind the first route: too few", behind)
	}
}

// P10.3 and P10.4: any one number of a certificate is changed.
func TestMixedOneNumber(t *testing.T) {
	x := mixed(12)
	changed := 0
	for range 500 {
		w := x.right(t)
		right, _ := build(t, w)
		for k := range right {
			for i := range right[k] {
				for _, field := range numbers() {
					n := field.of(&right[k][i])
					was := *n
					l := others(was)
					for _, other := range []int{was + 1, was - 1, l[x.Intn(len(l))], was + 1 + x.Intn(100)} {
						*n = other
						checkFault(t, w, right, k, field.why)
						changed++
					}
					*n = was
				}
				v := &right[k][i]
				v.Drop = !v.Drop
				checkFault(t, w, right, k, api.ErrForm)
				v.Drop = !v.Drop
			}
		}
		checkFault(t, w, right, 0, api.OK)
	}
	if changed < 25000 {
		t.Errorf("%d numbers were changed: too few", changed)
	}
}

// P10.3 and P10.4: certificates with several changes, of plans that have a certificate or not
func TestMixedTampered(t *testing.T) {
	x := mixed(13)
	counts := map[api.Errno]int{}
	for range 15000 {
		w := x.right(t)
		if x.Intn(3) == 0 {
			w = x.spoiled(t)
		}
		counts[check(t, w, x.tampered(w, walked(w))).Why]++
	}
	checkCounts(t, counts, 50, api.OK, api.ErrArg, api.ErrForm, api.ErrNone, api.ErrFirst, api.ErrLoad, api.ErrLate, api.ErrLack)
}

// P10.4: where Make finds a Fault, Check finds one whatever the certificate.
func TestMixedWithoutCert(t *testing.T) {
	x := mixed(14)
	refused := 0
	for refused < 3000 {
		w := x.spoiled(t)
		if _, f := build(t, w); f.Good() {
			continue
		}
		refused++
		certs := []api.Cert{nil, make(api.Cert, len(w.plan)), walked(w), x.tampered(w, walked(w))}
		// Nothing is late where nothing takes time, and nothing too much where Visits carry nothing.
		for _, turn := range []func(v *api.Visit){
			func(v *api.Visit) { v.Arrive, v.Begin, v.Leave = 0, 0, 0 },
			func(v *api.Visit) { v.Load = 0 },
			func(v *api.Visit) { v.Begin, v.Leave = v.Arrive, v.Arrive },
		} {
			c := walked(w)
			for k := range c {
				for i := range c[k] {
					turn(&c[k][i])
				}
			}
			certs = append(certs, c)
		}
		for _, c := range certs {
			if f := check(t, w, c); f.Good() {
				t.Fatalf("Check(%+v, %v) = %v", w, c, f)
			}
		}
	}
}

// P10.2: neither the order in which drivers and orders are listed nor those of whom there is no stop have an influence.
func TestMixedLists(t *testing.T) {
	x := mixed(15)
	for range 3000 {
		w := x.right(t)
		if x.Intn(2) == 0 {
			w = x.spoiled(t)
		}
		if !w.together() {
			continue
		}
		want, f := build(t, w)
		other := w
		other.drivers, other.orders = slices.Clone(w.drivers), slices.Clone(w.orders)
		for i := len(other.drivers); i < fleet; i++ {
			other.drivers = append(other.drivers, api.Driver{Id: 1000 + i, Room: 1})
		}
		for i := len(other.orders); i < most; i++ {
			other.orders = append(other.orders, api.Order{Id: 1000 + i, Size: biggest, Drop: site(0, 0, 0, longest)})
		}
		x.Shuffle(fleet, func(i, j int) { other.drivers[i], other.drivers[j] = other.drivers[j], other.drivers[i] })
		x.Shuffle(most, func(i, j int) { other.orders[i], other.orders[j] = other.orders[j], other.orders[i] })
		if c, g := build(t, other); g != f || !same(c, want) {
			t.Fatalf("Make(%+v) = %v, %v, not %v, %v", other, c, g, want, f)
		}
		if g := check(t, other, walked(w)); g != f {
			t.Fatalf("Check(%+v) = %v, not %v", other, g, f)
		}
	}
}

// P10.4: of all certificates whose numbers are next to those of a walk, there is one that is right if Make finds it, and
// else none.
func TestAllNear(t *testing.T) {
	for _, turn := range []func(w *world){
		func(w *world) {},
		func(w *world) { w.orders[0].Pick.From = 9 },
		func(w *world) { w.orders[0].Pick.To = 7 },
		func(w *world) { w.orders[0].Pick.To, w.orders[0].Drop.To = 8, 14 },
		func(w *world) { w.orders[0].Drop.From = 15 },
		func(w *world) { w.orders[0].Drop.To = 13 },
		func(w *world) { w.orders[0].Drop.Service, w.drivers[0].To = 0, 14 },
		func(w *world) { w.drivers[0].To = 16 },
		func(w *world) { w.drivers[0].To = 15 },
		func(w *world) { w.drivers[0].Room = 2 },
		func(w *world) { w.orders[0].Size = 1 },
		func(w *world) { w.plan[0].Stops = []api.Stop{q(1), p(1)} },
	} {
		w, _ := example(t)
		turn(&w)
		c := walked(w)
		var fields []*int
		for i := range c[0] {
			for _, x := range numbers()[1:] {
				fields = append(fields, x.of(&c[0][i]))
			}
		}
		want := 0
		if _, f := build(t, w); f.Good() {
			want = 1
		}
		if n := countRight(w, c, fields); n != want {
			t.Errorf("%d certificates of %+v are right, not %d", n, w, want)
		}
	}
}

// countRight returns in how many of the ways to change each field by one or leave it Check finds no Fault in c.
func countRight(w world, c api.Cert, fields []*int) int {
	if len(fields) == 0 {
		if cert.Check(w.m, w.drivers, w.orders, w.plan, c).Good() {
			return 1
		}
		return 0
	}
	total, was := 0, *fields[0]
	for n := was - 1; n <= was+1; n++ {
		*fields[0] = n
		total += countRight(w, c, fields[1:])
	}
	*fields[0] = was
	return total
}
