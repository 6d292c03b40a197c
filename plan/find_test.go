package plan_test

import (
	"slices"
	"testing"

	"dray/api"
	"dray/plan"
)

// findThere is the part of P9.2 about Find by its words.
func findThere(a api.Plan, order int) (api.Spot, bool) {
	for _, r := range a {
		s := api.Spot{Driver: r.Driver, Pick: -1, Drop: -1}
		for at := len(r.Stops) - 1; at >= 0; at-- {
			switch r.Stops[at] {
			case p(order):
				s.Pick = at
			case q(order):
				s.Drop = at
			}
		}
		if s.Pick != -1 || s.Drop != -1 {
			return s, true
		}
	}
	return api.Spot{}, false
}

// checkFind holds Find against what is wanted and against P9.2, and that a stays, with the room behind it.
func checkFind(t *testing.T, a api.Plan, order int, want api.Spot, found bool) {
	t.Helper()
	handed := roomy(a)
	before := clone(handed)
	if s, ok := plan.Find(handed, order); s != want || ok != found {
		t.Errorf("Find(%v, %d) = %v, %v, not %v, %v", a, order, s, ok, want, found)
	}
	if s, ok := findThere(a, order); s != want || ok != found {
		t.Errorf("order %d of %v is wanted at %v, %v, not at %v, %v", order, a, want, found, s, ok)
	}
	checkStayed(t, handed, before)
}

// P9.2: both stops at all places of a route, ahead of others, between them and behind them
func TestFindPlaces(t *testing.T) {
	for n := range 6 {
		for i := range n + 2 {
			for j := range n + 2 {
				if i == j {
					continue
				}
				var l []api.Stop
				next := 100
				for at := range n + 2 {
					switch at {
					case i:
						l = append(l, p(5))
					case j:
						l = append(l, q(5))
					default:
						l = append(l, api.Stop{Order: next, Drop: next%3 == 0})
						next++
					}
				}
				want := api.Spot{Driver: 7, Pick: i, Drop: j}
				for served := range n + 3 {
					checkFind(t, api.Plan{route(7, served, l...)}, 5, want, true)
					checkFind(t, api.Plan{route(3, 0, p(1), q(2)), route(6, 0), route(7, served, l...), route(8, 0, p(3))}, 5, want, true)
				}
			}
		}
	}
}

// P9.2: an order with only a pickup, only a delivery, its stops on two routes, and several times on one
func TestFindParts(t *testing.T) {
	for _, c := range []struct {
		a    api.Plan
		want api.Spot
	}{
		{api.Plan{route(7, 0, p(5))}, api.Spot{Driver: 7, Pick: 0, Drop: -1}},
		{api.Plan{route(7, 0, q(5))}, api.Spot{Driver: 7, Pick: -1, Drop: 0}},
		{api.Plan{route(7, 2, p(1), q(1), p(5))}, api.Spot{Driver: 7, Pick: 2, Drop: -1}},
		{api.Plan{route(7, 3, p(1), q(5), q(1))}, api.Spot{Driver: 7, Pick: -1, Drop: 1}},
		{api.Plan{route(7, 0, p(1), p(5)), route(8, 0, q(1), p(2), q(5))}, api.Spot{Driver: 7, Pick: 1, Drop: -1}},
		{api.Plan{route(7, 0, q(5)), route(8, 0, p(5))}, api.Spot{Driver: 7, Pick: -1, Drop: 0}},
		{api.Plan{route(7, 0), route(8, 0, p(1)), route(9, 0, q(1), q(5))}, api.Spot{Driver: 9, Pick: -1, Drop: 1}},
		// These are not right.
		{api.Plan{route(7, 0, p(5)), route(8, 0, p(5), q(5))}, api.Spot{Driver: 7, Pick: 0, Drop: -1}},
		{api.Plan{route(7, 0, p(5), q(5)), route(8, 0, q(5), p(5))}, api.Spot{Driver: 7, Pick: 0, Drop: 1}},
		{api.Plan{route(7, 0, p(1), p(5), p(5), q(5), p(5), q(5))}, api.Spot{Driver: 7, Pick: 1, Drop: 3}},
		{api.Plan{route(7, 0, q(5), q(5), p(5), q(5), p(5))}, api.Spot{Driver: 7, Pick: 2, Drop: 0}},
		{api.Plan{route(8, 0, p(5)), route(7, 0, q(5))}, api.Spot{Driver: 8, Pick: 0, Drop: -1}},
		{api.Plan{route(0, 0, p(5), q(5))}, api.Spot{Driver: 0, Pick: 0, Drop: 1}},
		{api.Plan{route(least, greatest, q(5))}, api.Spot{Driver: least, Pick: -1, Drop: 0}},
		{api.Plan{route(greatest, least, p(5))}, api.Spot{Driver: greatest, Pick: 0, Drop: -1}},
		{api.Plan{route(7, 0, p(1)), route(7, 0, p(5)), route(7, 0, q(5), p(5))}, api.Spot{Driver: 7, Pick: 0, Drop: -1}},
	} {
		checkFind(t, c.a, 5, c.want, true)
	}
}

// P9.2: orders that stand nowhere, in plans that are right and that are not
func TestFindNone(t *testing.T) {
	for _, a := range []api.Plan{nil, {}, {route(4, 0)}, {route(0, 0), route(0, 9)}, example(), three(), full()} {
		for _, id := range append(beyond(), 999, highest-1, -1, -6, 1<<32+1, 1<<32+6) {
			checkFind(t, a, id, api.Spot{}, false)
		}
	}
	for _, id := range beyond() {
		for _, other := range beyond() {
			if id != other {
				checkFind(t, api.Plan{route(4, 0, p(other), q(other))}, id, api.Spot{}, false)
			}
		}
	}
}

// P9.2: whatever the number, it is found where it stands.
func TestFindAnyNumber(t *testing.T) {
	for _, id := range append(beyond(), 1, highest) {
		checkFind(t, api.Plan{route(4, 0, p(7), q(id), p(id))}, id, api.Spot{Driver: 4, Pick: 2, Drop: 1}, true)
		checkFind(t, api.Plan{route(id, 0, p(7)), route(id, 0, q(id))}, id, api.Spot{Driver: id, Pick: -1, Drop: 0}, true)
	}
	a := full()
	for i, r := range a {
		for at, s := range r.Stops[:crowd/2] {
			checkFind(t, a, s.Order, api.Spot{Driver: a[i].Driver, Pick: at, Drop: at + crowd/2}, true)
		}
	}
	many := make(api.Plan, 3*fleet)
	many[3*fleet-1] = route(1, 0, append(firsts(1, 3*crowd), q(5))...)
	checkFind(t, many, 5, api.Spot{Driver: 1, Pick: 4, Drop: 3 * crowd}, true)
}

// ordersThere is P9.4 by its words.
func ordersThere(a api.Plan) []int {
	var l []int
	for _, r := range a {
		for _, s := range r.Stops {
			at := 0
			for at < len(l) && l[at] < s.Order {
				at++
			}
			if at == len(l) || l[at] != s.Order {
				l = slices.Insert(l, at, s.Order)
			}
		}
	}
	return l
}

// checkOrders holds Orders against what is wanted and against P9.4, that a stays, and that what is answered is new.
func checkOrders(t *testing.T, a api.Plan, want ...int) {
	t.Helper()
	handed := roomy(a)
	before := clone(handed)
	got, other := plan.Orders(handed), plan.Orders(handed)
	if !slices.Equal(got, want) || !slices.Equal(want, ordersThere(a)) {
		t.Errorf("Orders(%v) = %v, not %v", a, got, want)
	}
	checkApart(t, func(n *int) *int { return n }, got, other)
	checkStayed(t, handed, before)
}

// P9.4: stops that come in any order, on any routes, done or not, with numbers that may be wrong
func TestOrders(t *testing.T) {
	checkOrders(t, nil)
	checkOrders(t, api.Plan{})
	checkOrders(t, api.Plan{route(3, 0), route(4, 0)})
	checkOrders(t, api.Plan{route(3, 0, q(5))}, 5)
	checkOrders(t, api.Plan{route(3, 2, q(5), p(5))}, 5)
	checkOrders(t, api.Plan{route(3, 0, p(9), p(2), p(7), q(2), q(7), q(9))}, 2, 7, 9)
	checkOrders(t, api.Plan{route(3, 1, p(9), q(2)), route(4, 0), route(5, 2, q(9), p(2), p(4))}, 2, 4, 9)
	checkOrders(t, example(), 1, 2)
	checkOrders(t, three(), 1, 3, 6, 70, highest)
	checkOrders(t, api.Plan{route(3, 0, p(5), p(5), p(5)), route(2, -1, p(5), p(4)), route(2, 9, q(4), q(4))}, 4, 5)
	checkOrders(t, api.Plan{route(0, 0, p(greatest), q(0), p(least), q(-1), p(highest+1), p(1))}, least, -1, 0, 1, highest+1, greatest)
	checkOrders(t, api.Plan{{Stops: make([]api.Stop, 300)}}, 0)
	l := firsts(1, 3*crowd)
	slices.Reverse(l)
	var want []int
	for i := range 3 * crowd {
		want = append(want, i+1)
	}
	checkOrders(t, api.Plan{route(3, 0, l...)}, want...)
}

// P9.4: all orders in which five stops can come, on one route and on two
func TestOrdersAnyWay(t *testing.T) {
	var walk func(l, rest []api.Stop)
	walk = func(l, rest []api.Stop) {
		if len(rest) == 0 {
			checkOrders(t, api.Plan{route(3, 0, l...)}, 1, 4, 6)
			checkOrders(t, api.Plan{route(3, 1, l[:2]...), route(4, 0, l[2:]...)}, 1, 4, 6)
			return
		}
		for i, s := range rest {
			walk(append(slices.Clone(l), s), slices.Delete(slices.Clone(rest), i, i+1))
		}
	}
	walk(nil, []api.Stop{p(4), q(4), q(6), p(1), q(1)})
}

// fewStops hands on all lists of up to n of the stops of orders 1 and 2, some of them several times.
func fewStops(n int) [][]api.Stop {
	all := [][]api.Stop{nil}
	from := 0
	for range n {
		to := len(all)
		for _, l := range all[from:to] {
			for _, s := range []api.Stop{p(1), q(1), p(2), q(2)} {
				all = append(all, append(slices.Clone(l), s))
			}
		}
		from = to
	}
	return all
}

// P9.2 and P9.4: all plans of two routes with up to two stops on the one and three on the other
func TestFewStops(t *testing.T) {
	for _, first := range fewStops(2) {
		for _, second := range fewStops(3) {
			a := api.Plan{route(3, 0, first...), route(4, 0, second...)}
			for id := 1; id <= 3; id++ {
				want, found := findThere(a, id)
				checkFind(t, a, id, want, found)
			}
			checkOrders(t, a, ordersThere(a)...)
			checkRight(t, a, rightThere(a))
		}
	}
}
