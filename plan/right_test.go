package plan_test

import (
	"slices"
	"testing"

	"dray/api"
	"dray/plan"
)

// rightThere is P9.1 by its words.
func rightThere(a api.Plan) bool {
	var stops []api.Stop
	for i, r := range a {
		if r.Driver < 1 || r.Driver > highest || i > 0 && r.Driver <= a[i-1].Driver {
			return false
		}
		if len(r.Stops) > crowd || r.Served < 0 || r.Served > len(r.Stops) {
			return false
		}
		for _, s := range r.Stops {
			if s.Order < 1 || s.Order > highest || slices.Contains(stops, s) {
				return false
			}
			stops = append(stops, s)
		}
	}
	return len(a) <= fleet
}

// checkRight holds Right against what is wanted and against P9.1, and that a stays, with the room behind it.
func checkRight(t *testing.T, a api.Plan, want bool) {
	t.Helper()
	handed := roomy(a)
	before := clone(handed)
	if got, there := plan.Right(handed), rightThere(a); got != want || there != want {
		t.Errorf("Right(%v) = %v, not %v", a, got, want)
	}
	checkStayed(t, handed, before)
}

// P9.1: no routes, MaxDrivers of them, one more, and many
func TestRightRoutes(t *testing.T) {
	checkRight(t, nil, true)
	checkRight(t, api.Plan{}, true)
	for _, n := range []int{1, 2, fleet - 1, fleet, fleet + 1, fleet + 2, 2 * fleet, 256 + 1, 1 << 12} {
		var a api.Plan
		for i := range n {
			a = append(a, route(i+1, 0))
		}
		checkRight(t, a, n <= fleet)
		for i := range min(n, crowd) {
			a[i].Stops = []api.Stop{p(i + 1), q(i + 1)}
		}
		checkRight(t, a, n <= fleet)
	}
}

// P9.1: Drivers at their bounds and beyond, at each position
func TestRightDrivers(t *testing.T) {
	for _, id := range []int{1, 2, 500, highest - 1, highest} {
		checkRight(t, api.Plan{route(id, 0)}, true)
		checkRight(t, api.Plan{route(id, 1, p(7), q(7))}, true)
	}
	checkRight(t, api.Plan{route(1, 0), route(2, 0), route(highest-1, 0), route(highest, 0)}, true)
	for _, id := range beyond() {
		checkRight(t, api.Plan{route(id, 0)}, false)
		checkRight(t, api.Plan{route(id, 1, p(7), q(7))}, false)
		for _, a := range []api.Plan{three(), full()} {
			for i := range a {
				b := plain(a)
				b[i].Driver = id
				checkRight(t, b, false)
			}
		}
	}
}

// P9.1: equal Drivers and descending ones, at each position
func TestRightAscending(t *testing.T) {
	for _, a := range []api.Plan{three(), full()} {
		for i := range a {
			for j := range i {
				b := plain(a)
				b[i].Driver = b[j].Driver
				checkRight(t, b, false)
				b[i].Driver, b[j].Driver = a[j].Driver, a[i].Driver
				checkRight(t, b, false)
				b = plain(a)
				b[j].Driver = b[i].Driver
				checkRight(t, b, false)
			}
		}
		slices.Reverse(a)
		checkRight(t, a, false)
	}
	for _, c := range []struct {
		a, b, c int
		want    bool
	}{
		{1, 2, 3, true}, {1, 2, 2, false}, {1, 1, 2, false}, {1, 1, 1, false}, {1, 3, 2, false}, {2, 1, 3, false}, {2, 3, 1, false},
		{3, 1, 2, false}, {3, 2, 1, false}, {1, 2, 1, false}, {2, 1, 2, false},
		{highest - 2, highest - 1, highest, true}, {highest - 2, highest, highest, false}, {1, highest, 1, false}, {1, highest, highest - 1, false},
	} {
		checkRight(t, api.Plan{route(c.a, 0), route(c.b, 0), route(c.c, 0)}, c.want)
	}
}

// P9.1: no stops, MaxStops of them, one more, and many, on each route
func TestRightStops(t *testing.T) {
	for _, n := range []int{0, 1, 2, crowd - 1, crowd, crowd + 1, crowd + 2, 2 * crowd, 256, 1 << 12} {
		checkRight(t, api.Plan{route(1, 0, firsts(1, n)...)}, n <= crowd)
		checkRight(t, api.Plan{route(1, min(n, crowd), firsts(1, n)...)}, n <= crowd)
		for _, a := range []api.Plan{three(), full()} {
			for i := range a {
				b := plain(a)
				b[i].Served, b[i].Stops = 0, firsts(2000, n)
				checkRight(t, b, n <= crowd)
			}
		}
	}
}

// P9.1: Served at 0, at the number of stops, and beyond both, on each route
func TestRightServed(t *testing.T) {
	for _, n := range []int{0, 1, 2, 3, crowd} {
		for served := -2; served <= n+2; served++ {
			checkRight(t, api.Plan{route(1, served, firsts(1, n)...)}, 0 <= served && served <= n)
		}
	}
	for _, a := range []api.Plan{three(), full()} {
		for i, r := range a {
			n := len(r.Stops)
			for _, served := range []int{0, n, -1, n + 1, -n, crowd + 1, 1 << 32, -1 << 32, 1<<32 + 1, least, least + 1, greatest, greatest - 1} {
				b := plain(a)
				b[i].Served = served
				checkRight(t, b, 0 <= served && served <= n)
			}
		}
	}
}

// P9.1: Orders of stops at their bounds and beyond, at each position, done or not
func TestRightOrders(t *testing.T) {
	whole := full()
	for i := range whole {
		for _, at := range []int{0, crowd / 2, crowd - 1} {
			checkRightOrders(t, whole, i, at)
		}
	}
	for i, r := range three() {
		for at := range r.Stops {
			checkRightOrders(t, three(), i, at)
		}
	}
	for _, id := range []int{1, 2, highest - 1, highest} {
		checkRight(t, api.Plan{route(1, 0, p(id))}, true)
		checkRight(t, api.Plan{route(1, 2, p(id), q(id))}, true)
	}
}

// checkRightOrders holds Right of a with other orders in the stop at of route i.
func checkRightOrders(t *testing.T, a api.Plan, i, at int) {
	t.Helper()
	for _, drop := range []bool{false, true} {
		b := plain(a)
		b[i].Stops[at] = api.Stop{Order: 999, Drop: drop}
		checkRight(t, b, true)
		for _, id := range beyond() {
			b[i].Stops[at].Order = id
			checkRight(t, b, false)
		}
	}
}

// P9.1: each stop again at each position, on its own route and on another; and the order's other stop there, which is not
// the same one
func TestRightTwice(t *testing.T) {
	a := three()
	for i := range a {
		for _, s := range a[i].Stops {
			for j := range a {
				for at := range len(a[j].Stops) + 1 {
					b := plain(a)
					b[j].Stops = slices.Insert(b[j].Stops, at, s)
					checkRight(t, b, false)
				}
			}
		}
	}
	for _, s := range []api.Stop{p(5), q(5)} {
		checkRight(t, api.Plan{route(1, 0, s, s)}, false)
		checkRight(t, api.Plan{route(1, 2, s, s)}, false)
		checkRight(t, api.Plan{route(1, 0, s), route(2, 0, s)}, false)
		checkRight(t, api.Plan{route(1, 1, s), route(2, 0), route(3, 0, s)}, false)
		checkRight(t, api.Plan{route(1, 1, s), route(2, 0, s), route(3, 0, s)}, false)
	}
	whole := full()
	first, last := &whole[0].Stops[0], &whole[fleet-1].Stops[crowd-1]
	*last = *first
	checkRight(t, whole, false)
	last.Drop = true
	checkRight(t, whole, false)
	last.Order = 999
	checkRight(t, whole, true)
}

// P9.1: it is not asked in which order an order's stops come, on which route each is, nor whether both are there.
func TestRightAsksNoMore(t *testing.T) {
	for _, a := range []api.Plan{
		{route(1, 0, q(5), p(5))}, {route(1, 1, q(5), p(5))}, {route(1, 0, p(5))}, {route(1, 0, q(5))}, {route(1, 1, q(5))},
		{route(1, 0, p(5)), route(2, 0, q(5))}, {route(1, 0, q(5)), route(2, 0, p(5))}, {route(1, 1, q(5)), route(2, 1, p(5))},
		{route(1, 0, p(2), p(1), q(2), q(1))}, {route(1, 0, firsts(1, crowd)...)},
	} {
		checkRight(t, a, true)
	}
}

// wrongPlans returns plans that are wrong in each of the ways there are but one: those with too many routes or stops.
func wrongPlans() []api.Plan {
	var l []api.Plan
	add := func(turn func(a api.Plan)) {
		a := three()
		turn(a)
		l = append(l, a)
	}
	for i := range three() {
		for _, id := range beyond() {
			add(func(a api.Plan) { a[i].Driver = id })
		}
		for _, served := range []int{-1, len(three()[i].Stops) + 1, least, greatest} {
			add(func(a api.Plan) { a[i].Served = served })
		}
		for at := range three()[i].Stops {
			for _, id := range beyond() {
				add(func(a api.Plan) { a[i].Stops[at].Order = id })
			}
			add(func(a api.Plan) { a[i].Stops[at] = a[2-i].Stops[3] })
		}
	}
	add(func(a api.Plan) { a[1].Driver = a[0].Driver })
	add(func(a api.Plan) { a[1].Driver = a[2].Driver })
	add(func(a api.Plan) { a[0].Driver, a[2].Driver = a[2].Driver, a[0].Driver })
	add(func(a api.Plan) { a[0].Stops[3] = a[0].Stops[0] })
	add(func(a api.Plan) { a[1].Stops = []api.Stop{p(8), p(8)} })
	add(func(a api.Plan) { a[1].Stops = []api.Stop{q(70)} })
	add(func(a api.Plan) { clear(a) })
	return l
}

// crowded returns plans with too many routes, or with too many stops on one of them.
func crowded() []api.Plan {
	l := []api.Plan{make(api.Plan, fleet+1), append(full(), route(highest+1, 0)), append(api.Plan{route(3, 0)}, full()...)}
	for i := range three() {
		for n := range 3 {
			a := three()
			a[i].Stops = firsts(2000, crowd+1+n)
			l = append(l, a)
		}
	}
	return l
}

// The plans that are wrong are so, and there are enough of them.
func TestWrongPlans(t *testing.T) {
	l := slices.Concat(wrongPlans(), crowded())
	for _, a := range l {
		checkRight(t, a, false)
	}
	if len(l) < 150 {
		t.Errorf("only %d plans", len(l))
	}
}
