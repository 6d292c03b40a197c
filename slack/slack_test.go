package slack_test

import (
	"math"
	"slices"
	"testing"

	"dray/api"
	"dray/geo"
	"dray/route"
	"dray/slack"
)

const (
	// These hold the bounds anew, as the document's table of limits says them.
	places  = 12
	longest = 1000000
	biggest = 1000
	highest = 1000000
	most    = 40
	crowd   = 80

	greatest = math.MaxInt
	least    = math.MinInt
)

// world is what stops are driven in.
type world struct {
	m      *geo.Map
	d      api.Driver
	orders []api.Order
}

// change turns the chapter's world into what a case is about.
type change func(w *world)

func window(from, to int) api.Window { return api.Window{From: from, To: to} }

func site(place, from, to, service int) api.Site {
	return api.Site{Place: place, Window: window(from, to), Service: service}
}

func p(id int) api.Stop { return api.Stop{Order: id} }
func q(id int) api.Stop { return api.Stop{Order: id, Drop: true} }

func made(t *testing.T, n int, times ...int) *geo.Map {
	t.Helper()
	m, why := geo.New(n, times...)
	if m == nil || why != api.OK {
		t.Fatalf("New(%d, %v) = %v, %d", n, times, m, why)
	}
	return m
}

// example is the world of the chapter's example runs, with o alone.
func example(t *testing.T) world {
	t.Helper()
	return world{
		m:      made(t, 2, 0, 5, 7, 0),
		d:      api.Driver{Id: 4, Room: 3, Home: 1, Window: window(1, 30)},
		orders: []api.Order{{Id: 1, Size: 3, Pick: site(0, 2, 9, 1), Drop: site(1, 0, 20, 2)}},
	}
}

// second is the order r of the chapter's example runs.
func second() api.Order {
	return api.Order{Id: 2, Size: 1, Pick: site(0, 0, 100, 1), Drop: site(1, 0, 100, 2)}
}

// still is an order of size 1 at place 0 that takes no time.
func still(id int) api.Order {
	return api.Order{Id: id, Size: 1, Pick: site(0, 0, longest, 0), Drop: site(0, 0, longest, 0)}
}

// yard is a world of one place, where nothing takes time and n orders, with the Ids from 1 on, fit at once.
func yard(t *testing.T, n int) world {
	t.Helper()
	w := world{m: made(t, 1, 0), d: api.Driver{Id: 1, Room: most, Window: window(10, 100)}}
	for i := range n {
		w.orders = append(w.orders, still(i+1))
	}
	return w
}

// pairs returns the stops of the orders 1 to n, each delivery next to its pickup; nested returns all pickups ahead of all
// deliveries.
func pairs(n int) []api.Stop {
	var l []api.Stop
	for i := range n {
		l = append(l, p(i+1), q(i+1))
	}
	return l
}

func nested(n int) []api.Stop {
	var l []api.Stop
	for i := range 2 * n {
		l = append(l, api.Stop{Order: i%n + 1, Drop: i >= n})
	}
	return l
}

// turned returns a world with orders of its own, to which a change was made.
func (w world) turned(turn change) world {
	w.orders = slices.Clone(w.orders)
	turn(&w)
	return w
}

// site returns where a stop of one of the orders is made, to be looked at or changed.
func (w world) site(t *testing.T, s api.Stop) *api.Site {
	t.Helper()
	i := slices.IndexFunc(w.orders, func(o api.Order) bool { return o.Id == s.Order })
	if i < 0 {
		t.Fatalf("%v is none of %v", s, w.orders)
	}
	if s.Drop {
		return &w.orders[i].Drop
	}
	return &w.orders[i].Pick
}

// heldOff is Drive where the stop at i does not begin ahead of time. That time is one of its Window.
func heldOff(t *testing.T, w world, stops []api.Stop, i, time int) ([]api.Visit, api.Fault) {
	t.Helper()
	w.orders = slices.Clone(w.orders)
	w.site(t, stops[i]).From = time
	return route.Drive(w.m, w.d, w.orders, stops...)
}

// checkMade holds that all stops are made if that at i begins at time, which Drive's schedule reaches.
func checkMade(t *testing.T, w world, stops []api.Stop, i, time int) {
	t.Helper()
	v, f := heldOff(t, w, stops, i, time)
	if !f.Good() || v[i].Begin != time {
		t.Fatalf("stop %d of %v in %+v can't begin at %d: %v, %v", i, stops, w, time, v, f)
	}
}

// checkTooLate holds that the stop at i or a later one is too late if it begins at time.
func checkTooLate(t *testing.T, w world, stops []api.Stop, i, time int) {
	t.Helper()
	if time > w.site(t, stops[i]).To {
		return
	}
	if v, f := heldOff(t, w, stops, i, time); f.Why != api.ErrLate || f.At < i {
		t.Fatalf("stop %d of %v in %+v can begin at %d: %v, %v", i, stops, w, time, v, f)
	}
}

// latest calls Latest and holds what it answers against Drive, as P8.1 and P8.4 put it. Whether the driver is retired
// makes no difference.
func latest(t *testing.T, w world, stops ...api.Stop) ([]int, bool) {
	t.Helper()
	orders, handed := slices.Clone(w.orders), slices.Clone(stops)
	l, ok := slack.Latest(w.m, w.d, w.orders, stops...)
	visits, f := route.Drive(w.m, w.d, w.orders, stops...)
	if ok != f.Good() || len(l) != len(visits) {
		t.Fatalf("Latest(%+v, %v) = %v, %v where Drive answers %v, %v", w, stops, l, ok, visits, f)
	}
	other := w
	other.d.Retired = !w.d.Retired
	if again, good := slack.Latest(other.m, other.d, other.orders, stops...); good != ok || !slices.Equal(again, l) {
		t.Fatalf("Latest(%+v, %v) = %v, %v, not %v, %v", other, stops, again, good, l, ok)
	}
	if !slices.Equal(w.orders, orders) || !slices.Equal(stops, handed) {
		t.Fatalf("the arguments are now %v, %v, not %v, %v", w.orders, stops, orders, handed)
	}
	for i, time := range l {
		if s := w.site(t, stops[i]); time < visits[i].Begin || time < s.From || time > s.To {
			t.Fatalf("the latest time of stop %d of %v in %+v is %d, and it begins at %d", i, stops, w, time, visits[i].Begin)
		}
		checkMade(t, w, stops, i, time)
		checkTooLate(t, w, stops, i, time+1)
	}
	return l, ok
}

func checkLatest(t *testing.T, w world, want []int, stops ...api.Stop) {
	t.Helper()
	if l, ok := latest(t, w, stops...); !ok || !slices.Equal(l, want) {
		t.Errorf("Latest(%+v, %v) = %v, %v, not %v", w, stops, l, ok, want)
	}
}

// checkNone holds that there are no latest times, and no place between the stops for any other order.
func checkNone(t *testing.T, w world, stops ...api.Stop) {
	t.Helper()
	if l, ok := latest(t, w, stops...); ok || len(l) > 0 {
		t.Errorf("Latest(%+v, %v) = %v, %v", w, stops, l, ok)
	}
	for _, i := range []int{0, len(stops)} {
		for _, j := range []int{0, len(stops)} {
			checkFits(t, w, stops, still(highest-1), i, j, false)
		}
	}
}

// The bounds are those of the document's table.
func TestBounds(t *testing.T) {
	if api.MaxTime != longest || api.MaxSize != biggest || api.MaxId != highest || api.MaxOrders != most || api.MaxStops != crowd {
		t.Error("package api has other bounds")
	}
}

// The chapter's example runs.
func TestExampleRuns(t *testing.T) {
	w, o := example(t), second()
	checkLatest(t, w, []int{9, 20}, p(1), q(1))
	checkNone(t, w, p(1))
	checkLatest(t, w, nil)
	both := []api.Stop{p(1), q(1)}
	checkPut(t, both, 7, 1, 1, []api.Stop{p(1), p(7), q(7), q(1)})
	checkPut(t, both, 7, 2, 1, nil)
	none := w
	none.orders = nil
	checkFits(t, none, nil, w.orders[0], 0, 0, true)
	checkFits(t, w, both, o, 0, 0, false)
	checkFits(t, w, both, o, 1, 2, false)
	w.d.Room = 4
	checkFits(t, w, both, o, 1, 2, true)
	w.d.To = 18
	checkFits(t, w, both, o, 1, 2, false)
}
