package plan_test

import (
	"slices"
	"testing"

	"dray/api"
	"dray/plan"
)

// putThere is what the chapter ahead says of Put, stop by stop, where the places are in order.
func putThere(stops []api.Stop, order, i, j int) []api.Stop {
	var l []api.Stop
	for at := range len(stops) + 1 {
		if at == i {
			l = append(l, p(order))
		}
		if at == j {
			l = append(l, q(order))
		}
		if at < len(stops) {
			l = append(l, stops[at])
		}
	}
	return l
}

// withThere is the part of P9.3 about With by its words.
func withThere(a api.Plan, order int, s api.Spot) (api.Plan, bool) {
	if !rightThere(a) || order < 1 || order > highest {
		return nil, false
	}
	if _, stands := findThere(a, order); stands {
		return nil, false
	}
	next := plain(a)
	for i, r := range a {
		if r.Driver != s.Driver {
			continue
		}
		if len(r.Stops) > crowd-2 || s.Pick < r.Served || s.Drop < s.Pick || s.Drop > len(r.Stops) {
			return nil, false
		}
		next[i].Stops = putThere(r.Stops, order, s.Pick, s.Drop)
		return next, true
	}
	return nil, false
}

// with calls With and holds it against P9.3, that what is handed in stays, with the room behind it, and that what is
// answered is new.
func with(t *testing.T, a api.Plan, order int, s api.Spot) (api.Plan, bool) {
	t.Helper()
	handed := roomy(a)
	before := clone(handed)
	got, ok := plan.With(handed, order, s)
	answer := plain(got)
	if want, can := withThere(a, order, s); ok != can || !same(answer, want) {
		t.Fatalf("With(%v, %d, %+v) = %v, %v, not %v, %v", a, order, s, answer, ok, want, can)
	}
	checkStayed(t, handed, before)
	again, _ := plan.With(handed, order, s)
	checkNew(t, handed, got, again)
	return answer, ok
}

// checkWith holds With against what is wanted; nil if it is refused.
func checkWith(t *testing.T, a api.Plan, order int, s api.Spot, want api.Plan) {
	t.Helper()
	if got, ok := with(t, a, order, s); ok != (want != nil) || !same(got, want) {
		t.Errorf("With(%v, %d, %+v) = %v, %v, not %v", a, order, s, got, ok, want)
	}
}

// checkPlaces holds With at all places of each route and beyond their ends, and returns how many there are.
func checkPlaces(t *testing.T, a api.Plan, order int) int {
	t.Helper()
	count := 0
	for _, r := range a {
		for i := -2; i <= len(r.Stops)+2; i++ {
			for j := -2; j <= len(r.Stops)+2; j++ {
				if _, ok := with(t, a, order, api.Spot{Driver: r.Driver, Pick: i, Drop: j}); ok {
					count++
				}
			}
		}
	}
	return count
}

// P9.3: the places of one route, written out
func TestWithTwo(t *testing.T) {
	for _, c := range []struct {
		served, i, j int
		want         []api.Stop
	}{
		{0, 0, 0, []api.Stop{p(7), q(7), p(1), q(1)}}, {0, 0, 1, []api.Stop{p(7), p(1), q(7), q(1)}}, {0, 0, 2, []api.Stop{p(7), p(1), q(1), q(7)}},
		{0, 1, 1, []api.Stop{p(1), p(7), q(7), q(1)}}, {0, 1, 2, []api.Stop{p(1), p(7), q(1), q(7)}}, {0, 2, 2, []api.Stop{p(1), q(1), p(7), q(7)}},
		{1, 1, 1, []api.Stop{p(1), p(7), q(7), q(1)}}, {1, 1, 2, []api.Stop{p(1), p(7), q(1), q(7)}}, {1, 2, 2, []api.Stop{p(1), q(1), p(7), q(7)}},
		{2, 2, 2, []api.Stop{p(1), q(1), p(7), q(7)}},
		// Ahead of Served, with the delivery ahead of the pickup, and beyond the ends.
		{1, 0, 0, nil}, {1, 0, 1, nil}, {1, 0, 2, nil}, {2, 0, 2, nil}, {2, 1, 1, nil}, {2, 1, 2, nil},
		{0, 1, 0, nil}, {0, 2, 0, nil}, {0, 2, 1, nil}, {1, 2, 1, nil}, {2, 2, 1, nil}, {2, 2, 0, nil}, {1, 1, 0, nil},
		{0, 0, 3, nil}, {0, 1, 3, nil}, {0, 2, 3, nil}, {0, 3, 3, nil}, {2, 2, 3, nil}, {2, 3, 3, nil}, {0, 3, 4, nil}, {0, 3, 2, nil},
		{0, -1, -1, nil}, {0, -1, 0, nil}, {0, -1, 2, nil}, {0, -1, 3, nil}, {0, 0, -1, nil}, {0, 2, -1, nil},
	} {
		a := api.Plan{route(3, 0, p(5)), route(4, c.served, p(1), q(1)), route(6, 1, p(2), q(2))}
		var want api.Plan
		if c.want != nil {
			want = api.Plan{a[0], route(4, c.served, c.want...), a[2]}
		}
		checkWith(t, a, 7, api.Spot{Driver: 4, Pick: c.i, Drop: c.j}, want)
	}
}

// P9.3: a route without stops
func TestWithNoStops(t *testing.T) {
	a := api.Plan{route(4, 0)}
	checkWith(t, a, 7, api.Spot{Driver: 4}, api.Plan{route(4, 0, p(7), q(7))})
	if n := checkPlaces(t, a, 7); n != 1 {
		t.Errorf("%d places", n)
	}
}

// P9.3: all places of each route, and beyond their ends, for each Served
func TestWithEverywhere(t *testing.T) {
	want := func(a api.Plan) int {
		sum := 0
		for _, r := range a {
			open := len(r.Stops) - r.Served + 1
			sum += open * (open + 1) / 2
		}
		return sum
	}
	for first := range 5 {
		for last := range 7 {
			a := three()
			a[0].Served, a[2].Served = first, last
			if n := checkPlaces(t, a, 8); n != want(a) {
				t.Errorf("%d places in %v, not %d", n, a, want(a))
			}
		}
	}
}

// P9.3: numbers far beyond the places
func TestWithFar(t *testing.T) {
	far := []int{least, least + 1, -1 << 32, -1<<32 + 1, -3, 7, crowd, crowd + 1, 1 << 32, 1<<32 + 1, greatest - 1, greatest}
	for _, a := range []api.Plan{example(), three(), {route(4, 0)}} {
		for _, r := range a {
			for _, at := range far {
				checkWith(t, a, 8, api.Spot{Driver: r.Driver, Pick: at, Drop: at}, nil)
				for i := range len(r.Stops) + 1 {
					checkWith(t, a, 8, api.Spot{Driver: r.Driver, Pick: at, Drop: i}, nil)
					checkWith(t, a, 8, api.Spot{Driver: r.Driver, Pick: i, Drop: at}, nil)
				}
				for _, other := range far {
					checkWith(t, a, 8, api.Spot{Driver: r.Driver, Pick: at, Drop: other}, nil)
				}
			}
		}
	}
}

// P9.3: the Cost makes no difference.
func TestWithCost(t *testing.T) {
	want := api.Plan{route(4, 1, p(1), p(9), q(1), p(2), q(2), q(9))}
	for _, cost := range []int{least, -1, 0, 1, 77, greatest} {
		checkWith(t, example(), 9, api.Spot{Driver: 4, Pick: 1, Drop: 4, Cost: cost}, want)
		checkWith(t, example(), 9, api.Spot{Driver: 4, Pick: 0, Drop: 4, Cost: cost}, nil)
	}
}

// P9.3: the numbers that an order may have, and those beyond
func TestWithOrder(t *testing.T) {
	for _, id := range []int{1, 2, 500, highest - 1, highest} {
		checkWith(t, api.Plan{route(1, 0), route(2, 0)}, id, api.Spot{Driver: 2}, api.Plan{route(1, 0), route(2, 0, p(id), q(id))})
	}
	for _, id := range beyond() {
		for _, a := range []api.Plan{{route(1, 0)}, example(), three()} {
			if n := checkPlaces(t, a, id); n != 0 {
				t.Errorf("%d places in %v for order %d", n, a, id)
			}
		}
	}
}

// P9.3: an order that is in the plan already: on the same route or another, done or not, with one stop alone
func TestWithTaken(t *testing.T) {
	for _, a := range []api.Plan{
		{route(4, 0, p(5), q(5))}, {route(4, 1, p(5), q(5))}, {route(4, 2, p(5), q(5))}, {route(4, 0, p(5))}, {route(4, 0, q(5))},
		{route(4, 1, p(5))}, {route(4, 1, q(5))}, {route(4, 0, p(1), q(5)), route(5, 0)}, {route(4, 0, p(1)), route(5, 0, p(5))},
		{route(3, 1, q(5)), route(4, 0, p(1))}, {route(3, 1, q(5)), route(4, 1, p(5), p(1)), route(9, 0)},
	} {
		if n := checkPlaces(t, a, 5); n != 0 {
			t.Errorf("%d places in %v", n, a)
		}
		if n := checkPlaces(t, a, 6); n == 0 {
			t.Errorf("no places in %v", a)
		}
	}
	for _, id := range ordersThere(three()) {
		if n := checkPlaces(t, three(), id); n != 0 {
			t.Errorf("%d places for order %d", n, id)
		}
	}
}

// P9.3: no such route
func TestWithNoRoute(t *testing.T) {
	for _, id := range append(beyond(), 1, 3, 6, 8, 10, 70, highest) {
		for _, a := range []api.Plan{nil, {}, example(), three()} {
			checkWith(t, a, 8, api.Spot{Driver: id}, nil)
			checkWith(t, a, 8, api.Spot{Driver: id, Pick: 4, Drop: 4}, nil)
		}
	}
	for i, r := range full() {
		for _, id := range []int{r.Driver - fleet, r.Driver + fleet} {
			a := full()
			a[i].Stops, a[i].Served = nil, 0
			checkWith(t, a, 999, api.Spot{Driver: id}, nil)
		}
	}
}

// P9.3: MaxStops - 3 to MaxStops stops; a route beside it with as many as there may be makes no difference.
func TestWithMostStops(t *testing.T) {
	for n := crowd - 4; n <= crowd; n++ {
		for _, served := range []int{0, 1, n - 1, n} {
			a := api.Plan{route(4, served, firsts(101, n)...), route(7, crowd, firsts(301, crowd)...), route(9, 0)}
			for _, i := range []int{0, 1, 2, n - 2, n - 1, n, n + 1} {
				for _, j := range []int{0, 1, 2, n - 2, n - 1, n, n + 1} {
					_, ok := with(t, a, 8, api.Spot{Driver: 4, Pick: i, Drop: j})
					if ok != (n <= crowd-2 && served <= i && i <= j && j <= n) {
						t.Errorf("%d of %d stops done: %v at %d, %d", served, n, ok, i, j)
					}
				}
			}
			checkWith(t, a, 8, api.Spot{Driver: 9}, api.Plan{a[0], a[1], route(9, 0, p(8), q(8))})
			checkWith(t, a, 8, api.Spot{Driver: 7, Pick: crowd, Drop: crowd}, nil)
		}
	}
	a := full()
	for i := range a {
		b := plain(a)
		if n := len(b[i].Stops); b[i].Served < n-1 {
			b[i].Stops = b[i].Stops[:n-2]
			b[i].Served = min(b[i].Served, n-3)
			checkWith(t, a, 999, api.Spot{Driver: a[i].Driver, Pick: n - 2, Drop: n - 2}, nil)
			got, ok := with(t, b, 999, api.Spot{Driver: a[i].Driver, Pick: n - 3, Drop: n - 2})
			if !ok || len(got[i].Stops) != crowd {
				t.Errorf("%v, %v", got, ok)
			}
		}
	}
}

// P9.3: plans that are not right, although the place is there
func TestWithWrong(t *testing.T) {
	for _, a := range slices.Concat(wrongPlans(), crowded()) {
		for _, r := range a {
			for _, at := range []int{r.Served, 0, len(r.Stops)} {
				checkWith(t, a, 555, api.Spot{Driver: r.Driver, Pick: at, Drop: at}, nil)
				checkWith(t, a, 555, api.Spot{Driver: r.Driver, Pick: at, Drop: len(r.Stops)}, nil)
			}
		}
	}
	for _, a := range []api.Plan{{route(1, 0), route(1, 0)}, {route(2, 0), route(1, 0)}, {route(1, 0), route(2, 1)}, {route(1, 0), route(2, -1)}, {route(1, 0), route(2, 0, p(0))}} {
		checkWith(t, a, 555, api.Spot{Driver: 1}, nil)
	}
}
