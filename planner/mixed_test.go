package planner_test

import (
	"math/rand"
	"slices"
	"testing"

	"dray/api"
	"dray/audit"
	"dray/cert"
	"dray/plan"
	"dray/planner"
)

// mixer makes worlds and calls, the same ones in every run.
type mixer struct{ *rand.Rand }

func mixed(seed int64) mixer { return mixer{rand.New(rand.NewSource(seed))} }

// empty returns a world without drivers and orders, on a map that is Even or one with many ways round that are shorter.
func (x mixer) empty(t *testing.T, even bool) world {
	t.Helper()
	n := 2 + x.Intn(5)
	times := make([]int, n*n)
	for i := range times {
		if i/n != i%n {
			times[i] = []int{1, 1 + x.Intn(20)}[x.Intn(2)]
		}
	}
	m := made(t, n, times...)
	if even {
		m = m.Closed()
	}
	return world{m: m}
}

func (x mixer) site(n int) api.Site {
	from := x.Intn(40)
	return site(x.Intn(n), from, from+5+x.Intn(80), x.Intn(3))
}

// order returns an order that is right, but for one of several.
func (x mixer) order(w world) api.Order {
	n := w.m.Places()
	o := api.Order{Id: 1 + x.Intn(60), Size: 1 + x.Intn(4), Pick: x.site(n), Drop: x.site(n)}
	switch x.Intn(30) {
	case 0:
		o.Id = beyond()[x.Intn(len(beyond()))]
	case 1:
		o.Size = -x.Intn(2)
	case 2:
		o.Drop.Place = n
	case 3:
		o.Pick.To = -1
	case 4:
		o.Pick.Service = -1
	}
	return o
}

// driver returns a driver that is right, but for one of several.
func (x mixer) driver(w world) api.Driver {
	n, from := w.m.Places(), x.Intn(12)
	d := api.Driver{Id: 1 + x.Intn(30), Room: 2 + x.Intn(8), Home: x.Intn(n), Window: window(from, from+40+x.Intn(140))}
	switch x.Intn(20) {
	case 0:
		d.Id = beyond()[x.Intn(len(beyond()))]
	case 1:
		d.Room = -x.Intn(2)
	case 2:
		d.Home = n
	case 3:
		d.To = d.From - 1
	case 4:
		d.Retired = true
	}
	return d
}

// budget returns a budget that ends in the midst of things, or more than enough, or one that can't be.
func (x mixer) budget() int {
	switch x.Intn(16) {
	case 0:
		return x.Intn(4) - 1
	case 1:
		return wrongBudgets()[x.Intn(len(wrongBudgets()))]
	case 2, 3, 4, 5, 6:
		return 3000
	}
	return x.Intn(1 << (2 + x.Intn(8)))
}

// one returns one of the Ids, or another number.
func (x mixer) one(ids []int) int {
	if len(ids) == 0 || x.Intn(8) == 0 {
		return x.Intn(70) - 5
	}
	return ids[x.Intn(len(ids))]
}

func driverIds(b planner.Book) []int {
	var l []int
	for _, d := range b.Drivers {
		l = append(l, d.Id)
	}
	return l
}

func orderIds(b planner.Book) []int {
	var l []int
	for _, o := range b.Orders {
		l = append(l, o.Id)
	}
	return l
}

// kinds of calls
const (
	placing = iota
	dropping
	hiring
	retiring
	serving
	mending
	kinds
)

// change returns a call, of which there are more that add something than ones that take it away, and its kind.
func (x mixer) change(w world) (ask, int) {
	switch k := x.Intn(20); {
	case k < 10:
		return place(x.order(w), x.budget()), placing
	case k < 12:
		return drop(x.one(orderIds(w.b))), dropping
	case k < 14:
		return hire(x.driver(w)), hiring
	case k < 16:
		return retire(x.one(driverIds(w.b)), x.budget()), retiring
	case k < 19:
		return serve(x.one(driverIds(w.b)), x.Intn(4)), serving
	}
	return mend(x.budget()), mending
}

// any returns a world in which some changes were made.
func (x mixer) any(t *testing.T, even bool) world {
	t.Helper()
	w := x.empty(t, even)
	for range x.Intn(60) {
		c, _ := x.change(w)
		if a := c.call(w); a.why == api.OK {
			w.b = a.b
		}
	}
	return w
}

// spoil returns w with one thing changed, which may be wrong then.
func (x mixer) spoil(w world) world {
	b := copied(w.b)
	if len(b.Drivers) == 0 || len(b.Plan) == 0 {
		b.Plan = append(b.Plan, drive(x.Intn(3)))
		return world{w.m, b}
	}
	k := x.Intn(min(len(b.Drivers), len(b.Plan)))
	r, d := &b.Plan[k], &b.Drivers[k]
	switch i := x.Intn(len(r.Stops) + 1); x.Intn(12) {
	case 0:
		r.Stops = slices.Insert(r.Stops, i, api.Stop{Order: 1 + x.Intn(60), Drop: x.Intn(2) == 0})
	case 1:
		r.Stops = slices.Delete(r.Stops, i, min(i+1, len(r.Stops)))
	case 2:
		slices.Reverse(r.Stops[i:])
	case 3:
		r.Served = x.Intn(len(r.Stops)+3) - 1
	case 4:
		r.Driver += x.Intn(3) - 1
	case 5:
		d.Id += x.Intn(3) - 1
	case 6:
		d.To -= x.Intn(100)
	case 7:
		b.Plan[0], b.Plan[k] = b.Plan[k], b.Plan[0]
	case 8:
		b.Drivers[0], b.Drivers[k] = b.Drivers[k], b.Drivers[0]
	case 9:
		x.Shuffle(len(b.Orders), func(i, j int) { b.Orders[i], b.Orders[j] = b.Orders[j], b.Orders[i] })
	case 10:
		b.Plan = slices.Delete(b.Plan, k, k+1)
	case 11:
		b.Drivers = slices.Delete(b.Drivers, k, k+1)
	}
	return world{w.m, b}
}

// checkSound holds what P14.5 says of a book that is returned, without asking Right: it has a certificate, each order stands
// in it, and Ids ascend.
func checkSound(t *testing.T, c ask, w, next world) {
	t.Helper()
	proof, f := cert.Make(next.m, next.b.Drivers, next.b.Orders, next.b.Plan)
	if !f.Good() || !cert.Check(next.m, next.b.Drivers, next.b.Orders, next.b.Plan, proof).Good() {
		t.Fatalf("%s, on %+v, = %+v, which has no certificate: %v", c.name, w, next, f)
	}
	orders, drivers := orderIds(next.b), driverIds(next.b)
	if !slices.IsSorted(orders) || !slices.IsSorted(drivers) || !slices.Equal(plan.Orders(next.b.Plan), orders) {
		t.Fatalf("%s, on %+v, = %+v, of the orders %v", c.name, w, next, orders)
	}
	for k, r := range next.b.Plan {
		if len(next.b.Plan) != len(drivers) || r.Driver != drivers[k] {
			t.Fatalf("%s, on %+v, = %+v, of the drivers %v", c.name, w, next, drivers)
		}
	}
}

// checkTraits holds what is to be said of a change by its kind.
func checkTraits(t *testing.T, c ask, kind int, w, next world) {
	t.Helper()
	grown, hired := len(next.b.Orders)-len(w.b.Orders), len(next.b.Drivers)-len(w.b.Drivers)
	if grown != []int{1, -1, 0, 0, 0, 0}[kind] || hired != []int{0, 0, 1, 0, 0, 0}[kind] {
		t.Fatalf("%s, on %+v, = %+v", c.name, w, next)
	}
	if kept := audit.Kept(w.b.Plan, next.b.Plan); kept != (kind != serving) {
		t.Fatalf("%s, on %+v, = %+v, which is Kept: %v", c.name, w, next, kept)
	}
	if kind == retiring || kind == mending || kind == serving {
		if !slices.Equal(next.b.Orders, w.b.Orders) {
			t.Fatalf("%s, on %+v, = %+v, of other orders", c.name, w, next)
		}
	}
	for i, d := range w.b.Drivers {
		if kind == hiring || d == next.b.Drivers[i] {
			continue
		}
		r := next.b.Plan[i]
		if kind != retiring || d.Retired || !next.b.Drivers[i].Retired || r.Driver != d.Id {
			t.Fatalf("%s, on %+v, = %+v, of other drivers", c.name, w, next)
		}
		for _, s := range r.Stops {
			if !slices.Contains(r.Stops[:r.Served], p(s.Order)) {
				t.Fatalf("%s, on %+v, = %+v, which keeps %d", c.name, w, next, s.Order)
			}
		}
	}
}

// P14.3 and P14.5: long rows of changes, held against the chapter's words; every book is right, a refused call changes
// nothing, and on a map that is Even nothing is refused by the checker.
func TestMixed(t *testing.T) {
	x := mixed(51)
	var count [kinds]map[api.Errno]int
	for k := range count {
		count[k] = map[api.Errno]int{}
	}
	for day := range 700 {
		even := day%2 == 0
		w := x.empty(t, even)
		for range 20 + x.Intn(80) {
			c, kind := x.change(w)
			before := copied(w.b)
			a := asked(t, w, c)
			if !same(w.b, before) {
				t.Fatalf("%s leaves %+v, not %+v", c.name, w.b, before)
			}
			count[kind][a.why]++
			if even && a.why == api.ErrGate {
				t.Fatalf("%s, on %+v: the checker refuses", c.name, w)
			}
			if a.why == api.OK {
				next := world{w.m, a.b}
				checkSound(t, c, w, next)
				checkTraits(t, c, kind, w, next)
				checkRight(t, next, true)
				w = next
			}
		}
	}
	for kind, least := range []map[api.Errno]int{
		{api.OK: 3000, api.ErrArg: 900, api.ErrLoad: 300, api.ErrTaken: 300, api.ErrPlace: 300, api.ErrWindow: 300, api.ErrOver: 300, api.ErrRoute: 3000},
		{api.OK: 900, api.ErrNone: 900, api.ErrGate: 5, api.ErrServed: 300},
		{api.OK: 900, api.ErrArg: 90, api.ErrLoad: 90, api.ErrPlace: 90, api.ErrWindow: 90, api.ErrTaken: 90, api.ErrFull: 20, api.ErrGone: 90},
		{api.OK: 300, api.ErrArg: 90, api.ErrNone: 300, api.ErrRoute: 300, api.ErrGone: 300},
		{api.OK: 600, api.ErrNone: 900, api.ErrArg: 900},
		{api.OK: 900, api.ErrArg: 50},
	} {
		checkCount(t, count[kind], least)
	}
}

// checkCount holds that each was answered as often as is said, so that a test means something.
func checkCount[K comparable](t *testing.T, count, least map[K]int) {
	t.Helper()
	for k, n := range least {
		if count[k] < n {
			t.Errorf("%v are answered, of which %v are too few", count, k)
		}
	}
}

// P14.3 and P14.5: Retire of each driver and Drop of each order, whatever is done; on a map that is Even the checker refuses
// none of them.
func TestMixedRemoval(t *testing.T) {
	x := mixed(55)
	retires, drops := map[api.Errno]int{}, map[api.Errno]int{}
	for n := range 700 {
		even := n%5 == 0
		w := x.any(t, even)
		for k, r := range w.b.Plan {
			w.b.Plan[k].Served = 0
			for i := range r.Stops {
				w.b.Plan[k].Served = i
				why := asked(t, w, retire(r.Driver, 3000)).why
				gone := asked(t, w, drop(r.Stops[i].Order)).why
				if even && (why == api.ErrGate || gone == api.ErrGate) {
					t.Fatalf("in %+v, the checker refuses Retire of %d or Drop of %d", w, r.Driver, r.Stops[i].Order)
				}
				retires[why]++
				drops[gone]++
			}
			w.b.Plan[k].Served = r.Served
		}
	}
	checkCount(t, retires, map[api.Errno]int{api.OK: 900, api.ErrRoute: 300, api.ErrGate: 5, api.ErrGone: 90})
	checkCount(t, drops, map[api.Errno]int{api.OK: 900, api.ErrGate: 20, api.ErrServed: 900})
}

// P14.5: Place followed by Drop of the same order restores the book.
func TestMixedPlaceDrop(t *testing.T) {
	x := mixed(52)
	placed := 0
	for n := range 300 {
		w := x.any(t, n%2 == 0)
		for range 20 {
			o := x.order(w)
			a := asked(t, w, place(o, x.budget()))
			if a.why == api.OK {
				checkBook(t, world{w.m, a.b}, drop(o.Id), w.b, 0)
				placed++
			}
		}
	}
	if placed < 500 {
		t.Errorf("%d are placed: too few", placed)
	}
}

// P14.1 to P14.3: books of which something may be wrong, and Gate from each to each
func TestMixedSpoiled(t *testing.T) {
	x := mixed(53)
	rights, gates, whys := map[bool]int{}, map[bool]int{}, map[api.Errno]int{}
	for range 1600 {
		w := x.any(t, x.Intn(2) == 0)
		other := x.spoil(w)
		if x.Intn(3) == 0 {
			other = x.spoil(other)
		}
		rights[right(t, other)]++
		gates[asked(t, other, gate(w.b)).why == api.OK]++
		asked(t, w, gate(other.b))
		asked(t, other, gate(other.b))
		for range 4 {
			c, _ := x.change(other)
			whys[asked(t, other, c).why]++
		}
	}
	checkCount(t, rights, map[bool]int{true: 100, false: 300})
	checkCount(t, gates, map[bool]int{true: 100, false: 300})
	checkCount(t, whys, map[api.Errno]int{api.OK: 100, api.ErrArg: 900})
}

// P14.2: Gate from each to each of the books of a row of changes
func TestMixedGate(t *testing.T) {
	x := mixed(54)
	gates := map[bool]int{}
	for range 60 {
		w := x.any(t, false)
		l := []planner.Book{{}, w.b}
		for range 12 {
			c, _ := x.change(w)
			if a := c.call(w); a.why == api.OK {
				w.b = a.b
				l = append(l, w.b)
			}
		}
		for _, old := range l {
			for _, next := range l {
				a := asked(t, world{w.m, next}, gate(old))
				gates[a.why == api.OK]++
				if a.why == api.OK != audit.Kept(old.Plan, next.Plan) {
					t.Fatalf("Gate from %+v to %+v = %+v", old, next, a)
				}
			}
		}
	}
	checkCount(t, gates, map[bool]int{true: 300, false: 300})
}
