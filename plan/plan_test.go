package plan_test

import (
	"math"
	"slices"
	"testing"

	"dray/api"
	"dray/plan"
)

const (
	// These hold the bounds anew, as the document's table of limits says them.
	fleet   = 8
	crowd   = 80
	highest = 1000000

	greatest = math.MaxInt
	least    = math.MinInt
)

func p(id int) api.Stop { return api.Stop{Order: id} }
func q(id int) api.Stop { return api.Stop{Order: id, Drop: true} }

func route(driver, served int, stops ...api.Stop) api.Route {
	return api.Route{Driver: driver, Served: served, Stops: stops}
}

// example is the plan P of the chapter's example runs.
func example() api.Plan {
	return api.Plan{route(4, 1, p(1), q(1), p(2), q(2))}
}

// three is a plan of three routes, one of them without stops, with two orders begun: 1 and 6.
func three() api.Plan {
	return api.Plan{
		route(2, 1, p(6), p(3), q(6), q(3)),
		route(5, 0),
		route(9, 2, p(1), q(1), q(70), p(highest), p(70), q(highest)),
	}
}

// firsts returns the pickups of the orders from first on, n of them.
func firsts(first, n int) []api.Stop {
	var l []api.Stop
	for i := range n {
		l = append(l, p(first+i))
	}
	return l
}

// full is a plan with as many routes and stops as there may be, on each route all pickups ahead of all deliveries.
func full() api.Plan {
	var a api.Plan
	for i := range fleet {
		l := firsts(1+i*crowd, crowd)
		for at := crowd / 2; at < crowd; at++ {
			l[at] = q(l[at-crowd/2].Order)
		}
		a = append(a, route(highest-fleet+1+i, i*crowd/(fleet-1), l...))
	}
	return a
}

// beyond holds numbers that neither a driver nor an order has.
func beyond() []int {
	return []int{0, -1, -5, highest + 1, highest + 2, 1<<32 + 5, -1<<32 + 5, least, least + 1, greatest - 1, greatest}
}

// same reports whether the plans are equal; a list that is nil equals an empty one.
func same(a, b api.Plan) bool {
	return slices.EqualFunc(a, b, func(x, y api.Route) bool {
		return x.Driver == y.Driver && x.Served == y.Served && slices.Equal(x.Stops, y.Stops)
	})
}

// clone returns a copy of a, with the room behind each of its lists as a part of them.
func clone(a api.Plan) api.Plan {
	var l api.Plan
	for _, r := range a[:cap(a)] {
		l = append(l, route(r.Driver, r.Served, slices.Clone(r.Stops[:cap(r.Stops)])...))
	}
	return l
}

// roomy returns a copy of a with room behind each of its lists, in which there are stops and routes that would count.
func roomy(a api.Plan) api.Plan {
	l := make(api.Plan, 0, len(a)+2)
	for _, r := range a {
		stops := append(make([]api.Stop, 0, len(r.Stops)+2), r.Stops...)
		copy(stops[len(stops):cap(stops)], []api.Stop{p(1), q(9)})
		r.Stops = stops
		l = append(l, r)
	}
	copy(l[len(l):cap(l)], api.Plan{route(4, 1, p(1), q(1)), route(least, greatest, p(9))})
	return l
}

// checkStayed holds that a, with the room behind its lists, is what it was before.
func checkStayed(t *testing.T, a, before api.Plan) {
	t.Helper()
	if now := clone(a); !same(now, before) {
		t.Fatalf("the plan and the room behind it are now %v, not %v", now, before)
	}
}

// checkApart holds that no two of the lists share memory, with the room behind them: each keeps what is written all over
// it. Where field points to is what is written.
func checkApart[T any](t *testing.T, field func(v *T) *int, lists ...[]T) {
	t.Helper()
	for n, l := range lists {
		l = l[:cap(l)]
		for i := range l {
			*field(&l[i]) = -n
		}
	}
	for n, l := range lists {
		l = l[:cap(l)]
		for i := range l {
			if got := *field(&l[i]); got != -n {
				t.Fatalf("lists %d and %d share memory", n, -got)
			}
		}
	}
}

// checkNew holds that no two lists of the plans share memory. Afterwards, nothing of them is left.
func checkNew(t *testing.T, plans ...api.Plan) {
	t.Helper()
	var stops [][]api.Stop
	var routes [][]api.Route
	for _, a := range plans {
		for _, r := range a[:cap(a)] {
			stops = append(stops, r.Stops)
		}
		routes = append(routes, a)
	}
	checkApart(t, func(s *api.Stop) *int { return &s.Order }, stops...)
	checkApart(t, func(r *api.Route) *int { return &r.Driver }, routes...)
	for _, a := range routes {
		clear(a[:cap(a)])
	}
}

// plain returns a copy of a without any room that counts.
func plain(a api.Plan) api.Plan {
	var l api.Plan
	for _, r := range a {
		l = append(l, route(r.Driver, r.Served, slices.Clone(r.Stops)...))
	}
	return l
}

// The bounds are those of the document's table.
func TestBounds(t *testing.T) {
	if api.MaxDrivers != fleet || api.MaxStops != crowd || api.MaxId != highest {
		t.Error("package api has other bounds")
	}
}

// The plans that the tests begin with are right.
func TestBeginnings(t *testing.T) {
	for _, a := range []api.Plan{example(), three(), full()} {
		checkRight(t, a, true)
	}
}

// The chapter's example runs.
func TestExampleRuns(t *testing.T) {
	a := example()
	checkFind(t, a, 2, api.Spot{Driver: 4, Pick: 2, Drop: 3}, true)
	checkFind(t, a, 3, api.Spot{}, false)
	checkOrders(t, a, 1, 2)
	checkWithout(t, a, api.Plan{route(4, 1, p(1), q(1))}, 1, 2)
	checkWithout(t, a, a, 3)
	checkWith(t, a, 9, api.Spot{Driver: 4}, nil)
	checkWith(t, a, 9, api.Spot{Driver: 4, Pick: 1, Drop: 4}, api.Plan{route(4, 1, p(1), p(9), q(1), p(2), q(2), q(9))})
	checkBytes(t, a, "\x02\x08\x08\x02\x02\x00\x02\x01\x04\x00\x04\x01")
	checkRefused(t, "\x02\x08\x02\x04\x02\x00", api.ErrForm)
	checkRefused(t, "\x02\x08", api.ErrShort)
	checkRefused(t, "\x02\x08\x00\x00\x07", api.ErrTail)
}

// R1: nothing but zero values, nothing, and plans far beyond the bounds
func TestAnything(t *testing.T) {
	long := make([]api.Stop, 1<<17)
	for i := range long {
		long[i] = api.Stop{Order: i * 3 % (1 << 16), Drop: i%2 == 0}
	}
	many := make(api.Plan, 1<<17)
	for i := range many {
		many[i] = route(i+1, 1, p(i%(1<<16)))
	}
	ids := make([]int, 1<<17)
	for i := range ids {
		ids[i] = i
	}
	for _, a := range []api.Plan{nil, {}, {{}}, make(api.Plan, fleet), make(api.Plan, fleet+1), {route(1, 0, long...)}, many} {
		wrong := len(a) > 0
		if plan.Right(a) == wrong || len(plan.Encode(a)) > 0 == wrong {
			t.Errorf("a plan of %d routes is right", len(a))
		}
		if _, ok := plan.With(a, 9, api.Spot{Driver: 1}); ok {
			t.Errorf("With takes a plan of %d routes", len(a))
		}
		rest := plan.Without(a, ids...)
		if len(rest) != len(a) {
			t.Fatalf("%d routes of %d are left", len(rest), len(a))
		}
		for i, r := range rest {
			if r.Driver != a[i].Driver || r.Served != a[i].Served || len(r.Stops) != a[i].Served {
				t.Fatalf("route %d is now %v, formerly %v", i, r, a[i])
			}
		}
		orders := plan.Orders(a)
		for i, id := range orders {
			if i > 0 && id <= orders[i-1] {
				t.Fatalf("%d comes behind %d", id, orders[i-1])
			}
		}
		for _, id := range orders[:min(len(orders), 100)] {
			if _, ok := plan.Find(a, id); !ok {
				t.Fatalf("order %d of the orders stands nowhere", id)
			}
		}
		if _, ok := plan.Find(a, -1); ok {
			t.Error("Find finds what is not there")
		}
	}
}
