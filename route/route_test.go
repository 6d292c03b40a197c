package route_test

import (
	"math"
	"slices"
	"testing"

	"dray/api"
	"dray/geo"
	"dray/route"
)

const (
	// These hold the bounds anew, as the document's table of limits says them.
	places  = 12
	longest = 1000000
	biggest = 1000
	highest = 1000000
	most    = 40
	crowd   = 80

	greatest = math.MaxInt
	least    = math.MinInt
)

// world is what stops are driven in.
type world struct {
	m      *geo.Map
	d      api.Driver
	orders []api.Order
}

// times are those of a visit: of the arrival, the beginning and the leaving.
type times [3]int

// change turns the chapter's world into what a case is about.
type change struct {
	name string
	turn func(w *world)
}

func window(from, to int) api.Window { return api.Window{From: from, To: to} }

func site(place, from, to, service int) api.Site {
	return api.Site{Place: place, Window: window(from, to), Service: service}
}

func p(id int) api.Stop { return api.Stop{Order: id} }
func q(id int) api.Stop { return api.Stop{Order: id, Drop: true} }

func made(t *testing.T, n int, times ...int) *geo.Map {
	t.Helper()
	m, why := geo.New(n, times...)
	if m == nil || why != api.OK {
		t.Fatalf("New(%d, %v) = %v, %d", n, times, m, why)
	}
	return m
}

// example is the world of the chapter's example runs.
func example(t *testing.T) world {
	t.Helper()
	return world{
		m:      made(t, 2, 0, 5, 7, 0),
		d:      api.Driver{Id: 4, Room: 3, Home: 1, Window: window(1, 30)},
		orders: []api.Order{{Id: 1, Size: 3, Pick: site(0, 2, 9, 1), Drop: site(1, 0, 20, 2)}},
	}
}

// yard is a world of one place, where nothing takes time and n orders of size 1, with the Ids from 1 on, fit at once.
func yard(t *testing.T, n int) world {
	t.Helper()
	w := world{m: made(t, 1, 0), d: api.Driver{Id: 1, Room: n, Window: window(10, 100)}}
	for i := range n {
		w.orders = append(w.orders, api.Order{Id: i + 1, Size: 1, Pick: site(0, 0, longest, 0), Drop: site(0, 0, longest, 0)})
	}
	return w
}

func (w world) order(id int) (api.Order, bool) {
	i := slices.IndexFunc(w.orders, func(o api.Order) bool { return o.Id == id })
	if i < 0 {
		return api.Order{}, false
	}
	return w.orders[i], true
}

// site returns where a stop of one of the orders is made, and how the load changes there.
func (w world) site(s api.Stop) (api.Site, int) {
	o, _ := w.order(s.Order)
	if s.Drop {
		return o.Drop, -o.Size
	}
	return o.Pick, o.Size
}

// drive calls Drive and Cost and holds against each other what they answer: with a Fault there is nothing else; without
// one the visits are those of the stops, each as P7.1 says. Whether the driver is retired makes no difference.
func drive(t *testing.T, w world, stops ...api.Stop) ([]api.Visit, api.Fault) {
	t.Helper()
	orders, handed := slices.Clone(w.orders), slices.Clone(stops)
	visits, fault := route.Drive(w.m, w.d, w.orders, stops...)
	cost, ok := route.Cost(w.m, w.d, w.orders, stops...)
	retired := w.d
	retired.Retired = !retired.Retired
	if v, f := route.Drive(w.m, retired, w.orders, stops...); f != fault || !slices.Equal(v, visits) {
		t.Fatalf("Drive(%+v, %v) = %v, %v, not %v, %v", retired, stops, v, f, visits, fault)
	}
	if n, good := route.Cost(w.m, retired, w.orders, stops...); n != cost || good != ok {
		t.Fatalf("Cost(%+v, %v) = %d, %v, not %d, %v", retired, stops, n, good, cost, ok)
	}
	if !slices.Equal(w.orders, orders) || !slices.Equal(stops, handed) {
		t.Fatalf("the arguments are now %v, %v, not %v, %v", w.orders, stops, orders, handed)
	}
	if !fault.Good() {
		if len(visits) > 0 || cost != 0 || ok {
			t.Fatalf("%v, %d, %v beside the Fault %v of %v", visits, cost, ok, fault, stops)
		}
		return visits, fault
	}
	if fault != (api.Fault{}) || len(visits) != len(stops) {
		t.Fatalf("%v, %v for the stops %v", visits, fault, stops)
	}
	if want := checkVisits(t, w, stops, visits); cost != want || !ok {
		t.Fatalf("Cost(%+v, %v) = %d, %v, not %d", w, stops, cost, ok, want)
	}
	return visits, fault
}

// checkVisits holds each visit against the one ahead of it, and returns the sum of the ways.
func checkVisits(t *testing.T, w world, stops []api.Stop, visits []api.Visit) int {
	t.Helper()
	place, left, load, total := w.d.Home, w.d.From, 0, 0
	for i, v := range visits {
		s, more := w.site(stops[i])
		way, ok := w.m.Time(place, s.Place)
		load += more
		want := api.Visit{Stop: stops[i], Arrive: left + way, Begin: max(left+way, s.From), Load: load}
		want.Leave = want.Begin + s.Service
		if v != want || !ok || want.Begin > s.To || want.Leave > w.d.To || load > w.d.Room || load < 0 {
			t.Fatalf("visit %d of %v in %+v is %+v, not %+v", i, stops, w, v, want)
		}
		place, left, total = s.Place, want.Leave, total+way
	}
	if load != 0 {
		t.Fatalf("%d is still loaded behind %v", load, stops)
	}
	return total
}

func checkFault(t *testing.T, w world, at int, why api.Errno, stops ...api.Stop) {
	t.Helper()
	if v, f := drive(t, w, stops...); f != (api.Fault{At: at, Why: why}) {
		t.Errorf("Drive(%+v, %v) = %v, %v, not %d at %d", w, stops, v, f, why, at)
	}
}

func checkGood(t *testing.T, w world, stops ...api.Stop) {
	t.Helper()
	checkFault(t, w, 0, api.OK, stops...)
}

func checkVisited(t *testing.T, w world, want []api.Visit, stops ...api.Stop) {
	t.Helper()
	if v, f := drive(t, w, stops...); !f.Good() || !slices.Equal(v, want) {
		t.Errorf("Drive(%+v, %v) = %+v, %v, not %+v", w, stops, v, f, want)
	}
}

func checkTimes(t *testing.T, w world, want []times, stops ...api.Stop) {
	t.Helper()
	visits, f := drive(t, w, stops...)
	got := make([]times, len(visits))
	for i, v := range visits {
		got[i] = times{v.Arrive, v.Begin, v.Leave}
	}
	if !f.Good() || !slices.Equal(got, want) {
		t.Errorf("Drive(%+v, %v) = %v, %v, not %v", w, stops, got, f, want)
	}
}

func checkCost(t *testing.T, w world, want int, wantOK bool, stops ...api.Stop) {
	t.Helper()
	if got, ok := route.Cost(w.m, w.d, w.orders, stops...); got != want || ok != wantOK {
		t.Errorf("Cost(%+v, %v) = %d, %v, not %d, %v", w, stops, got, ok, want, wantOK)
	}
}

// wrongWindows holds windows that are wrong in each of the ways there are.
func wrongWindows() []api.Window {
	return []api.Window{
		window(-1, 9), window(5, 4), window(0, -1), window(0, longest+1), window(longest+1, longest+1),
		window(least, greatest), window(greatest, least), window(least, 20), window(0, greatest), window(0, 1<<32),
	}
}

// wrongDrivers returns changes of the chapter's driver to one that is not right.
func wrongDrivers() []change {
	var l []change
	add := func(name string, turn func(d *api.Driver)) {
		l = append(l, change{name, func(w *world) { turn(&w.d) }})
	}
	for _, n := range []int{0, -1, highest + 1, least, greatest, 1<<32 + 4} {
		add("Id", func(d *api.Driver) { d.Id = n })
	}
	for _, n := range []int{0, -1, biggest + 1, least, greatest, 1<<32 + 3} {
		add("Room", func(d *api.Driver) { d.Room = n })
	}
	for _, n := range []int{-1, 2, places, least, greatest, 1<<32 + 1} {
		add("Home", func(d *api.Driver) { d.Home = n })
	}
	for _, w := range wrongWindows() {
		add("Window", func(d *api.Driver) { d.Window = w })
	}
	add("all", func(d *api.Driver) { *d = api.Driver{} })
	return l
}

// wrongOrders returns changes of the order at an index to one that is not right.
func wrongOrders(at int) []change {
	var l []change
	add := func(name string, turn func(o *api.Order)) {
		l = append(l, change{name, func(w *world) { turn(&w.orders[at]) }})
	}
	for _, n := range []int{0, -1, highest + 1, least, greatest, 1<<32 + 1} {
		add("Id", func(o *api.Order) { o.Id = n })
	}
	for _, n := range []int{0, -1, biggest + 1, least, greatest, 1<<32 + 3} {
		add("Size", func(o *api.Order) { o.Size = n })
	}
	for _, n := range []int{-1, 2, places, least, greatest, 1 << 32} {
		add("Pick.Place", func(o *api.Order) { o.Pick.Place = n })
		add("Drop.Place", func(o *api.Order) { o.Drop.Place = n })
	}
	for _, w := range wrongWindows() {
		add("Pick.Window", func(o *api.Order) { o.Pick.Window = w })
		add("Drop.Window", func(o *api.Order) { o.Drop.Window = w })
	}
	for _, n := range []int{-1, longest + 1, least, greatest, 1<<32 + 1} {
		add("Pick.Service", func(o *api.Order) { o.Pick.Service = n })
		add("Drop.Service", func(o *api.Order) { o.Drop.Service = n })
	}
	add("all", func(o *api.Order) { *o = api.Order{} })
	return l
}

// The bounds are those of the document's table.
func TestBounds(t *testing.T) {
	if api.MaxTime != longest || api.MaxSize != biggest || api.MaxId != highest || api.MaxOrders != most || api.MaxStops != crowd {
		t.Error("package api has other bounds")
	}
}

// The chapter's example runs.
func TestExampleRuns(t *testing.T) {
	w := example(t)
	none := w
	none.orders = nil
	checkVisited(t, w, []api.Visit{
		{Stop: p(1), Arrive: 8, Begin: 8, Leave: 9, Load: 3},
		{Stop: q(1), Arrive: 14, Begin: 14, Leave: 16, Load: 0},
	}, p(1), q(1))
	checkFault(t, w, 0, api.ErrFirst, q(1))
	checkFault(t, w, 1, api.ErrLack, p(1))
	checkFault(t, w, 1, api.ErrTwice, p(1), p(1))
	checkFault(t, none, 0, api.ErrNone, p(1))
	checkCost(t, w, 12, true, p(1), q(1))
	checkCost(t, w, 0, true)
	checkCost(t, w, 0, false, p(1))
}

// several returns stops that have no Fault in the chapter's world, and some that have one of each kind.
func several() [][]api.Stop {
	return [][]api.Stop{
		nil, {}, {p(1), q(1)}, {p(1)}, {q(1)}, {p(1), p(1)}, {p(1), q(1), q(1)}, {p(9)}, {q(9)}, {p(least), p(greatest)},
		make([]api.Stop, 1), make([]api.Stop, crowd), make([]api.Stop, crowd+1), make([]api.Stop, 3*crowd),
	}
}

// P7.1: no map is an ErrArg, whatever else is handed in.
func TestNoMap(t *testing.T) {
	for _, stops := range several() {
		w := example(t)
		w.m = nil
		checkFault(t, w, 0, api.ErrArg, stops...)
		w.orders = nil
		checkFault(t, w, 0, api.ErrArg, stops...)
		w.d = api.Driver{}
		checkFault(t, w, 0, api.ErrArg, stops...)
	}
}

// P7.1: a driver that is not right is an ErrArg at 0, ahead of all Faults of the stops.
func TestDriverWrong(t *testing.T) {
	for _, c := range wrongDrivers() {
		for _, stops := range several() {
			w := example(t)
			c.turn(&w)
			checkFault(t, w, 0, api.ErrArg, stops...)
			w.orders = nil
			checkFault(t, w, 0, api.ErrArg, stops...)
		}
	}
}

// P7.1: so is one order that is not right, with or without stops of its own, at all positions.
func TestOrderWrong(t *testing.T) {
	for at := range 3 {
		for _, c := range wrongOrders(at) {
			for _, stops := range several() {
				w := example(t)
				for id := 2; id <= 3; id++ {
					o := w.orders[0]
					o.Id = id
					w.orders = append(w.orders, o)
				}
				c.turn(&w)
				checkFault(t, w, 0, api.ErrArg, stops...)
			}
		}
	}
}

// P7.1: so are two orders of one Id, and too many orders.
func TestOrdersNotKnown(t *testing.T) {
	for _, stops := range several() {
		w := example(t)
		w.orders = append(w.orders, w.orders[0])
		checkFault(t, w, 0, api.ErrArg, stops...)
		w.orders[1].Size, w.orders[1].Pick.Place = 1, 1
		checkFault(t, w, 0, api.ErrArg, stops...)
	}
	for i := range most {
		w := yard(t, most)
		checkGood(t, w, p(1), q(1))
		w.orders[i].Id = w.orders[(i+7)%most].Id
		checkFault(t, w, 0, api.ErrArg)
		checkFault(t, w, 0, api.ErrArg, p(1), q(1))
		checkFault(t, w, 0, api.ErrArg, p(9999))
	}
	for _, n := range []int{most + 1, most + 2, 2 * most, 1 << 8} {
		for _, stops := range several() {
			checkFault(t, yard(t, n), 0, api.ErrArg, stops...)
		}
	}
}

// P7.1 and P7.3: no stops
func TestNoStops(t *testing.T) {
	for _, n := range []int{0, 1, 2, most} {
		w := yard(t, max(n, 1))
		w.orders = w.orders[:n]
		for _, stops := range [][]api.Stop{nil, {}, make([]api.Stop, 0, 5)} {
			checkGood(t, w, stops...)
			checkCost(t, w, 0, true, stops...)
		}
		if v, f := route.Drive(w.m, w.d, w.orders); len(v) != 0 || f != (api.Fault{}) {
			t.Errorf("Drive without stops = %v, %v", v, f)
		}
		if cost, ok := route.Cost(w.m, w.d, w.orders); cost != 0 || !ok {
			t.Errorf("Cost without stops = %d, %v", cost, ok)
		}
	}
}

// all returns the pickups of the orders 1 to n and then their deliveries, pairs each pickup with its delivery.
func all(n int) []api.Stop {
	var l []api.Stop
	for i := range 2 * n {
		l = append(l, api.Stop{Order: i%n + 1, Drop: i >= n})
	}
	return l
}

func pairs(n int) []api.Stop {
	var l []api.Stop
	for i := range n {
		l = append(l, p(i+1), q(i+1))
	}
	return l
}

// P7.1 and P7.2: MaxStops stops are driven, with and without a Fault.
func TestMostStops(t *testing.T) {
	w := yard(t, most)
	for _, stops := range [][]api.Stop{all(most), pairs(most)} {
		checkGood(t, w, stops...)
		for i := range stops {
			other := slices.Clone(stops)
			other[i] = p(most + 1)
			checkFault(t, w, i, api.ErrNone, other...)
			other[i] = stops[(i+1)%crowd]
			if _, f := drive(t, w, other...); f.Good() || f.At < i {
				t.Errorf("Drive(%v) = %v", other, f)
			}
		}
		last := slices.Clone(stops)
		last[crowd-1] = stops[0]
		checkFault(t, w, crowd-1, api.ErrTwice, last...)
		checkFault(t, w, crowd-1, api.ErrLack, stops[:crowd-1]...)
	}
	w.d.Room = most - 1
	checkFault(t, w, most-1, api.ErrLoad, all(most)...)
	checkGood(t, w, pairs(most)...)
	w.d.Room = 1
	checkFault(t, w, 1, api.ErrLoad, all(most)...)
	checkGood(t, w, pairs(most)...)
	checkFault(t, w, 0, api.ErrNone, make([]api.Stop, crowd)...)
}

// P7.1: one stop more than MaxStops is an ErrArg at 0, whatever Faults the stops have.
func TestTooManyStops(t *testing.T) {
	w := yard(t, most)
	stops := pairs(most)
	for _, s := range []api.Stop{p(1), q(1), p(most), q(most), p(most + 1), q(most + 1), p(0), q(least), p(greatest)} {
		checkFault(t, w, 0, api.ErrArg, append(slices.Clone(stops), s)...)
		checkFault(t, w, 0, api.ErrArg, append([]api.Stop{s}, stops...)...)
		for _, n := range []int{crowd + 1, crowd + 2, 2 * crowd, 1 << 8, 1 << 16} {
			checkFault(t, w, 0, api.ErrArg, slices.Repeat([]api.Stop{s}, n)...)
		}
	}
	w.orders = nil
	checkFault(t, w, 0, api.ErrArg, append(stops, p(1))...)
}

// P7.1: the times and loads of several orders, picked up and delivered in turns
func TestSeveralOrders(t *testing.T) {
	w := world{
		m: made(t, 3, 0, 4, 9, 6, 0, 2, 3, 8, 0),
		d: api.Driver{Id: 7, Room: 10, Home: 2, Window: window(5, 60)},
		orders: []api.Order{
			{Id: 30, Size: 2, Pick: site(0, 0, 20, 1), Drop: site(2, 30, 40, 2)},
			{Id: 10, Size: 7, Pick: site(1, 15, 25, 3), Drop: site(0, 10, 50, 0)},
			{Id: 20, Size: 1, Pick: site(2, 5, 5, 0), Drop: site(2, 0, 60, 10)},
		},
	}
	checkVisited(t, w, []api.Visit{
		{Stop: p(20), Arrive: 5, Begin: 5, Leave: 5, Load: 1},
		{Stop: p(30), Arrive: 8, Begin: 8, Leave: 9, Load: 3},
		{Stop: p(10), Arrive: 13, Begin: 15, Leave: 18, Load: 10},
		{Stop: q(30), Arrive: 20, Begin: 30, Leave: 32, Load: 8},
		{Stop: q(10), Arrive: 35, Begin: 35, Leave: 35, Load: 1},
		{Stop: q(20), Arrive: 44, Begin: 44, Leave: 54, Load: 0},
	}, p(20), p(30), p(10), q(30), q(10), q(20))
	checkCost(t, w, 3+4+2+3+9, true, p(20), p(30), p(10), q(30), q(10), q(20))
	// One order's delivery may come ahead of another's pickup, and what is not driven has no part in it.
	checkTimes(t, w, []times{{13, 15, 18}, {24, 24, 24}}, p(10), q(10))
	checkCost(t, w, 8+6, true, p(10), q(10))
	checkFault(t, w, 2, api.ErrLate, p(10), q(10), p(30))
	checkTimes(t, w, []times{{8, 8, 9}, {18, 30, 32}}, p(30), q(30))
	checkFault(t, w, 2, api.ErrLate, p(30), q(30), p(10))
	w.d.Room = 9
	checkFault(t, w, 2, api.ErrLoad, p(20), p(30), p(10), q(30), q(10), q(20))
}

// P7.1: which ways are driven, on a map whose times tell them apart; the way is the direct one, even where that through
// a third place is shorter, and the way home does not count.
func TestWays(t *testing.T) {
	m := made(t, 3, 0, 1, 10, 100, 0, 1000, 10000, 100000, 0)
	time := func(a, b int) int {
		n, ok := m.Time(a, b)
		if !ok {
			t.Fatalf("no time from %d to %d", a, b)
		}
		return n
	}
	for home := range 3 {
		for from := range 3 {
			for to := range 3 {
				there, across := time(home, from), time(from, to)
				w := world{m: m, d: api.Driver{Id: 1, Room: 1, Home: home, Window: window(0, there+across)}}
				w.orders = []api.Order{{Id: 1, Size: 1, Pick: site(from, 0, longest, 0), Drop: site(to, 0, longest, 0)}}
				end := there + across
				checkTimes(t, w, []times{{there, there, there}, {end, end, end}}, p(1), q(1))
				checkCost(t, w, end, true, p(1), q(1))
			}
		}
	}
}

// P7.1 and P7.3: stops at one place, and at home
func TestOnePlace(t *testing.T) {
	w := yard(t, 3)
	w.orders[0].Pick.Service, w.orders[1].Drop = 2, site(0, 20, 20, 3)
	checkTimes(t, w, []times{{10, 10, 10}, {10, 10, 12}, {12, 20, 23}, {23, 23, 23}}, p(2), p(1), q(2), q(1))
	checkCost(t, w, 0, true, p(2), p(1), q(2), q(1))
	checkCost(t, w, 0, true, all(3)...)
	// On the map of two places: at home, at the other place, and from home to there and back.
	w = example(t)
	w.orders = append(w.orders,
		api.Order{Id: 2, Size: 1, Pick: site(1, 0, 50, 1), Drop: site(1, 0, 50, 0)},
		api.Order{Id: 3, Size: 1, Pick: site(0, 0, 50, 1), Drop: site(0, 0, 50, 0)})
	checkTimes(t, w, []times{{1, 1, 2}, {2, 2, 2}}, p(2), q(2))
	checkCost(t, w, 0, true, p(2), q(2))
	checkTimes(t, w, []times{{8, 8, 9}, {9, 9, 9}}, p(3), q(3))
	checkCost(t, w, 7, true, p(3), q(3))
	checkTimes(t, w, []times{{1, 1, 2}, {9, 9, 10}, {15, 15, 15}, {22, 22, 22}}, p(2), p(3), q(2), q(3))
	checkCost(t, w, 7+5+7, true, p(2), p(3), q(2), q(3))
	checkCost(t, w, 0, false, p(2), p(3), q(2))
	w.d.Home = 0
	checkTimes(t, w, []times{{1, 1, 2}, {2, 2, 2}, {7, 7, 8}, {8, 8, 8}}, p(3), q(3), p(2), q(2))
	checkCost(t, w, 5, true, p(3), q(3), p(2), q(2))
}

// P7.2: a stop whose Order is no order's Id, at all positions
func TestNone(t *testing.T) {
	w := yard(t, 3)
	for _, id := range []int{0, -1, 4, most, highest, highest + 1, least, least + 1, greatest, 1 << 32, 1<<32 + 1, -1<<32 + 2} {
		for _, s := range []api.Stop{p(id), q(id)} {
			stops := pairs(3)
			for i := range len(stops) + 1 {
				checkFault(t, w, i, api.ErrNone, slices.Insert(slices.Clone(stops), i, s)...)
			}
			// Twice, or with a pickup ahead of it: the first one is answered.
			checkFault(t, w, 0, api.ErrNone, s, s)
			checkFault(t, w, 0, api.ErrNone, p(id), q(id))
			empty := w
			empty.orders = nil
			checkFault(t, empty, 0, api.ErrNone, s)
		}
	}
	// An order's place in the list, or its Size, is not its Id.
	w.orders[0].Id, w.orders[1].Id, w.orders[2].Id = 70, 80, 90
	for id := range 4 {
		checkFault(t, w, 0, api.ErrNone, p(id))
	}
	checkGood(t, w, p(80), p(90), q(80), p(70), q(70), q(90))
}

// P7.2: the same stop twice, next to each other and far apart
func TestTwice(t *testing.T) {
	w := yard(t, 6)
	for _, stops := range [][]api.Stop{all(6), pairs(6)} {
		for i := range stops {
			for j := i + 1; j <= len(stops); j++ {
				checkFault(t, w, j, api.ErrTwice, slices.Insert(slices.Clone(stops), j, stops[i])...)
			}
		}
	}
	checkFault(t, w, 1, api.ErrTwice, p(1), p(1), q(1))
	checkFault(t, w, 1, api.ErrTwice, p(1), p(1), q(1), q(1))
	checkFault(t, w, 2, api.ErrTwice, p(1), q(1), p(1), q(1))
	checkFault(t, w, 2, api.ErrTwice, p(1), q(1), q(1), p(1))
	// A pickup and its delivery are not the same stop, nor are two orders' pickups.
	checkGood(t, w, p(1), p(2), q(2), q(1))
}

// P7.2: a Drop ahead of its pickup, and without one
func TestFirst(t *testing.T) {
	w := yard(t, 3)
	checkFault(t, w, 0, api.ErrFirst, q(1))
	checkFault(t, w, 0, api.ErrFirst, q(1), p(1))
	checkFault(t, w, 0, api.ErrFirst, q(1), q(1))
	checkFault(t, w, 0, api.ErrFirst, q(1), p(1), q(1))
	checkFault(t, w, 1, api.ErrFirst, p(2), q(1))
	checkFault(t, w, 1, api.ErrFirst, p(2), q(1), p(1), q(2))
	checkFault(t, w, 2, api.ErrFirst, p(2), q(2), q(1), p(1))
	checkFault(t, w, 3, api.ErrFirst, p(2), q(2), p(3), q(1), q(3))
	checkFault(t, w, 4, api.ErrFirst, p(2), p(3), q(2), q(3), q(1))
	checkGood(t, w, p(1), q(1))
}

// P7.2: a load equal to the Room, and greater by one
func TestLoad(t *testing.T) {
	w := yard(t, 3)
	w.orders[0].Size, w.orders[1].Size, w.orders[2].Size = 2, 3, 4
	for room, at := range map[int]int{1: 0, 2: 1, 3: 1, 4: 1, 5: 2, 6: 2, 7: 2, 8: 2} {
		w.d.Room = room
		checkFault(t, w, at, api.ErrLoad, p(1), p(2), p(3), q(3), q(2), q(1))
	}
	for _, room := range []int{9, 10, biggest} {
		w.d.Room = room
		checkGood(t, w, p(1), p(2), p(3), q(3), q(2), q(1))
	}
	// What is delivered makes room, no sooner than it is delivered.
	w.d.Room = 7
	checkGood(t, w, p(2), p(3), q(2), p(1), q(3), q(1))
	checkGood(t, w, p(1), p(2), q(1), p(3), q(3), q(2))
	checkFault(t, w, 2, api.ErrLoad, p(2), p(3), p(1), q(2), q(3), q(1))
	w.d.Room = 6
	checkFault(t, w, 1, api.ErrLoad, p(2), p(3), q(2), p(1), q(3), q(1))
	checkGood(t, w, p(1), p(3), q(3), p(2), q(1), q(2))
	// At the greatest sizes, and with as many orders as there may be.
	w.orders[0].Size, w.orders[1].Size, w.orders[2].Size = biggest, biggest, 1
	w.d.Room = biggest
	checkGood(t, w, p(1), q(1), p(2), q(2))
	checkFault(t, w, 1, api.ErrLoad, p(1), p(2), q(1), q(2))
	checkFault(t, w, 1, api.ErrLoad, p(1), p(3), q(1), q(3))
	w.d.Room = biggest - 1
	checkFault(t, w, 0, api.ErrLoad, p(1), q(1))
	w = yard(t, most)
	for i := range w.orders {
		w.orders[i].Size = biggest / most
	}
	w.d.Room = biggest
	checkGood(t, w, all(most)...)
	w.d.Room--
	checkFault(t, w, most-1, api.ErrLoad, all(most)...)
}
