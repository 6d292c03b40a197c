package insert_test

import (
	"testing"

	"dray/api"
)

// ladder holds what Best is to return with each budget from 0 on, and that it is the last of them with any greater one.
func ladder(t *testing.T, j job, want ...api.Spot) {
	t.Helper()
	for budget, s := range append([]api.Spot{{}}, want...) {
		a := found(s, budget)
		if s == (api.Spot{}) {
			a = nowhere(budget)
		}
		checkBest(t, j, budget, a)
	}
	last, steps := want[len(want)-1], len(want)
	for _, budget := range []int{steps + 1, steps + 2, 2 * steps, 1000, budgets - 1, budgets} {
		a := found(last, steps)
		if last == (api.Spot{}) {
			a = nowhere(steps)
		}
		checkBest(t, j, budget, a)
	}
	for _, budget := range []int{-1, -steps, least, budgets + 1, greatest, 1 << 32, 1<<32 + steps} {
		checkBest(t, j, budget, refused(api.ErrArg))
	}
}

// P12.1 and P12.2: the positions in their order, with prices that are worked out by hand; each budget up to as many as
// there are, and more
func TestLadder(t *testing.T) {
	j := street(t).job(0)
	// From 3 to 2, beside the way from 0 over 1 to 3: 40, 40, 50, 20, 10 and 10.
	far := spot(2, 0, 0, 40)
	ladder(t, j, far, far, far, spot(2, 1, 1, 20), spot(2, 1, 2, 10), spot(2, 1, 2, 10))
	// From 2 to 3: 40, 20, 20, 0, 0 and 20.
	j.o = errand(9, 2, 3)
	near := spot(2, 0, 1, 20)
	ladder(t, j, spot(2, 0, 0, 40), near, near, spot(2, 1, 1, 0), spot(2, 1, 1, 0), spot(2, 1, 1, 0))

	j = street(t).job(1)
	// From 3 to 2, beside the way from 3 over 2 to 0: 0, 0, 20, 20, 40 and 40.
	first := spot(5, 0, 0, 0)
	ladder(t, j, first, first, first, first, first, first)

	j = street(t).job(2)
	ladder(t, j, spot(7, 0, 0, 30))
}

// P12.1: what is done stays ahead of all positions: Served from 0 to the number of stops, and beyond.
func TestServed(t *testing.T) {
	j := street(t).job(0)
	j.r.Served = 1
	ladder(t, j, spot(2, 1, 1, 20), spot(2, 1, 2, 10), spot(2, 1, 2, 10))
	j.r.Served = 2
	ladder(t, j, spot(2, 2, 2, 10))
	for _, n := range []int{3, 4, -1, -2, crowd, 1 << 32, 1<<32 + 1, least, greatest} {
		for _, budget := range []int{0, 1, 9, budgets} {
			j.r.Served = n
			checkBest(t, j, budget, refused(api.ErrArg))
		}
	}
	idle := street(t).job(2)
	for _, n := range []int{1, -1, least, greatest} {
		idle.r.Served = n
		checkBest(t, idle, 9, refused(api.ErrArg))
	}
	// In the yard, the first position behind what is done is as good as all others.
	for n := range 13 {
		j := yard(t, 6, 6)
		j.r.Served = n
		for budget := range positions(12-n) + 2 {
			if budget > 0 {
				checkBest(t, j, budget, found(spot(4, n, n, 0), min(budget, positions(12-n))))
			}
		}
	}
}

// P12.1 and P12.2: an order that fits at one position only, and each position as that one
func TestOnlyPosition(t *testing.T) {
	// The driver goes straight on, to stops at every other place, each of them with a Window of just that time. What is put
	// in lies between them.
	j := job{m: line(t, 9), d: api.Driver{Id: 4, Room: 9, Window: window(0, 80)}, r: drive(4, p(1), p(2), q(1), q(2))}
	at := func(place int) api.Site { return site(place, 10*place, 10*place, 0) }
	j.orders = []api.Order{{Id: 2, Size: 1, Pick: at(3), Drop: at(7)}, {Id: 1, Size: 1, Pick: at(1), Drop: at(5)}}
	for from := range 5 {
		for to := range 5 {
			j.o = errand(50, 2*from, 2*to)
			var want []api.Spot
			now := api.Spot{}
			for _, open := range openThere(j.r) {
				if open.Pick == from && open.Drop == to {
					now = spot(4, from, to, max(20*to-70, 0))
				}
				want = append(want, now)
			}
			ladder(t, j, want...)
		}
	}
}

// P12.2: of several positions of equal price, the first; a price that is less by one is less.
func TestEqualPrices(t *testing.T) {
	for n := range 7 {
		j := yard(t, n, n)
		for _, budget := range []int{1, 2, 3, plenty} {
			checkBest(t, j, budget, found(spot(4, 0, 0, 0), min(budget, positions(2*n))))
		}
	}
	// On the way over 1 and 2 and back to 0, what is put in at 1, from 1 to 2 or at 2 costs nothing, in one of the
	// directions or in both.
	j := job{m: line(t, 3), d: api.Driver{Id: 4, Room: 9, Window: window(0, longest)}, r: drive(4, p(1), p(2), q(1), q(2))}
	j.orders = []api.Order{errand(1, 1, 1), errand(2, 2, 0)}
	for _, c := range []struct{ from, to, i, j, price int }{
		{0, 0, 0, 0, 0}, {0, 1, 0, 0, 0}, {0, 2, 0, 1, 0}, {1, 0, 0, 3, 0}, {1, 1, 0, 0, 0}, {1, 2, 0, 1, 0}, {2, 0, 1, 3, 0},
		{2, 1, 1, 2, 0}, {2, 2, 1, 1, 0},
	} {
		j.o = errand(50, c.from, c.to)
		checkBest(t, j, plenty, found(spot(4, c.i, c.j, c.price), 15))
	}
	// One of the later positions is less by one than all others.
	m := made(t, 3, 0, 20, 20, 20, 0, 20, 20, 20, 0)
	cheap := made(t, 3, 0, 20, 20, 20, 0, 19, 20, 20, 0)
	j = job{m: m, d: api.Driver{Id: 4, Room: 9, Window: window(0, longest)}, r: drive(4, p(1), q(1)), orders: []api.Order{errand(1, 1, 1)}}
	j.o = errand(50, 2, 2)
	checkBest(t, j, plenty, found(spot(4, 0, 0, 20), 6))
	j.m = cheap
	checkBest(t, j, plenty, found(spot(4, 2, 2, 19), 6))
	checkBest(t, j, 5, found(spot(4, 0, 0, 20), 5))
}

// P12.1: on a map with detours, an order may make the way shorter.
func TestNegativePrices(t *testing.T) {
	j := job{m: made(t, 3, 0, 50, 1, 50, 0, 50, 7, 1, 0), d: api.Driver{Id: 1, Room: 9, Window: window(0, 500)}}
	j.orders = []api.Order{errand(1, 0, 1)}
	j.r, j.o = drive(1, p(1), q(1)), errand(2, 2, 2)
	// By way of 2 and back to 0, it is 8 more; from there to 1 through 2 the way is 2 for 50; and from 1 to 2 it is 50 more.
	first := spot(1, 0, 0, 8)
	through := spot(1, 0, 1, -40)
	ladder(t, j, first, through, through, spot(1, 1, 1, -48), spot(1, 1, 1, -48), spot(1, 1, 1, -48))
	j.r.Served = 2
	ladder(t, j, spot(1, 2, 2, 50))
	// The greatest price and the least one.
	j = job{m: made(t, 3, 0, longest, 0, 0, 0, 0, 0, 0, 0), d: api.Driver{Id: 1, Room: 1, Window: window(0, longest)}}
	j.r, j.o = drive(1), errand(1, 0, 1)
	ladder(t, j, spot(1, 0, 0, longest))
	j.orders, j.r, j.o, j.d.Room = []api.Order{j.o}, drive(1, p(1), q(1)), errand(2, 2, 2), 2
	ladder(t, j, spot(1, 0, 0, 0), spot(1, 0, 1, -longest), spot(1, 0, 1, -longest), spot(1, 0, 1, -longest), spot(1, 0, 1, -longest), spot(1, 0, 1, -longest))
	// A second order from 0 to 1 must come along with the first, since the driver has no time to go there twice.
	j.o = errand(2, 0, 1)
	one := spot(1, 0, 1, 0)
	ladder(t, j, api.Spot{}, one, one, one, one, one)
}

// P12.2: an order that fits nowhere: too big, too late, or the driver has no time left
func TestNowhere(t *testing.T) {
	j := street(t).job(0)
	for _, turn := range []func(j *job){
		func(j *job) { j.o.Size = 10 },
		func(j *job) { j.o.Size = biggest },
		func(j *job) { j.o.Drop.Window = window(39, 39) },
		func(j *job) { j.o.Pick.Window = window(29, 29) },
		func(j *job) { j.o.Pick.Service = longest },
		func(j *job) { j.d.To = 39 },
		func(j *job) { j.o.Pick.From = longest },
	} {
		other := j
		turn(&other)
		none := make([]api.Spot, 6)
		ladder(t, other, none...)
		other.r.Served = 2
		ladder(t, other, api.Spot{})
	}
	// Of one less, or later by one, it fits.
	for _, turn := range []func(j *job){
		func(j *job) { j.o.Size = 9 },
		func(j *job) { j.o.Drop.Window = window(40, 40) },
		func(j *job) { j.o.Pick.Window = window(30, 30) },
		func(j *job) { j.o.Pick.Service = longest - 40 },
		func(j *job) { j.d.To = 40 },
		func(j *job) { j.o.Pick.From = longest - 10 },
	} {
		other := j
		turn(&other)
		other.r.Served = 2
		ladder(t, other, spot(2, 2, 2, 10))
	}
}

// P12.1: only where the load leaves room for it does an order fit.
func TestRoom(t *testing.T) {
	j := street(t).job(0)
	j.o = errand(9, 2, 3)
	for size := 1; size <= 9; size++ {
		j.orders[0].Size, j.o.Size = size, 9
		// Beside the other order it has no room; ahead of it and behind it, it has.
		ladder(t, j, spot(2, 0, 0, 40), spot(2, 0, 0, 40), spot(2, 0, 0, 40), spot(2, 0, 0, 40), spot(2, 0, 0, 40), spot(2, 2, 2, 20))
		j.o.Size = 9 - size
		if size < 9 {
			checkBest(t, j, plenty, found(spot(2, 1, 1, 0), 6))
		}
		j.o.Size = 10 - size
		checkBest(t, j, plenty, found(spot(2, 2, 2, 20), 6))
	}
}

// P12.2: MaxStops - 2 stops, and two more; a route of one more has a stop without its other one.
func TestMostStops(t *testing.T) {
	j := yard(t, most-1, most-1)
	checkBest(t, j, plenty, found(spot(4, 0, 0, 0), positions(crowd-2)))
	j.r.Served = crowd - 2
	ladder(t, j, spot(4, crowd-2, crowd-2, 0))
	j.r.Served = crowd / 2
	checkBest(t, j, budgets, found(spot(4, crowd/2, crowd/2, 0), positions(crowd/2-2)))

	full := yard(t, most, most)
	for _, served := range []int{0, 1, crowd - 2, crowd - 1, crowd} {
		full.r.Served = served
		for _, budget := range []int{0, 1, budgets} {
			checkBest(t, full, budget, refused(api.ErrFull))
		}
	}
	full.r.Served = crowd + 1
	checkBest(t, full, 1, refused(api.ErrArg))
	full.r.Served = 0
	for _, stops := range [][]api.Stop{full.r.Stops[:crowd-1], full.r.Stops[1:]} {
		one := full
		one.r.Stops = stops
		checkBest(t, one, 1, refused(api.ErrArg))
	}
	// Beyond MaxStops, there is a Fault, whatever the stops are.
	for _, more := range []int{1, 2, 100, 256} {
		long := full
		for i := range more {
			long.r.Stops = append(long.r.Stops[:crowd+i:crowd+i], api.Stop{Order: 200 + i/2, Drop: i%2 == 1})
		}
		checkBest(t, long, 1, refused(api.ErrArg))
		long.d.Retired = true
		checkBest(t, long, 1, refused(api.ErrArg))
	}
}

// P12.2: the last of the many positions of a long route, and the budgets around it
func TestLongSearch(t *testing.T) {
	j := yard(t, most-1, most-1)
	j.m = line(t, 2)
	j.d.To = longest
	j.o = errand(99, 1, 1)
	n := positions(crowd - 2)
	for _, budget := range []int{1, 2, n - 1} {
		checkBest(t, j, budget, found(spot(4, 0, 0, 20), budget))
	}
	for _, budget := range []int{n, n + 1, budgets} {
		checkBest(t, j, budget, found(spot(4, crowd-2, crowd-2, 10), n))
	}
	j.o = errand(99, 0, 1)
	for _, budget := range []int{1, 2, crowd - 2} {
		checkBest(t, j, budget, found(spot(4, 0, 0, 20), budget))
	}
	for _, budget := range []int{crowd - 1, crowd, n} {
		checkBest(t, j, budget, found(spot(4, 0, crowd-2, 10), budget))
	}
}

// P12.1: with MaxOrders orders, one more fits nowhere, but is tried; with one fewer it fits.
func TestMostOrders(t *testing.T) {
	for _, driven := range []int{0, 1, 2, 10} {
		n := positions(2 * driven)
		for _, budget := range []int{0, 1, n - 1, n, n + 1, budgets} {
			checkBest(t, yard(t, most, driven), budget, nowhere(min(budget, n)))
			checkBest(t, yard(t, most+1, driven), budget, refused(api.ErrArg))
			j := yard(t, most-1, driven)
			if budget > 0 {
				checkBest(t, j, budget, found(spot(4, 0, 0, 0), min(budget, n)))
			}
		}
	}
	checkBest(t, yard(t, most, most-1), plenty, nowhere(positions(crowd-2)))
}
