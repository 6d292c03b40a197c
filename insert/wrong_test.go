package insert_test

import (
	"slices"
	"testing"

	"dray/api"
)

// wrongWindows holds windows that are wrong in each of the ways there are.
func wrongWindows() []api.Window {
	return []api.Window{
		window(-1, 9), window(5, 4), window(0, -1), window(0, longest+1), window(longest+1, longest+1),
		window(least, greatest), window(greatest, least), window(0, 1<<32),
	}
}

// wrongDrivers returns changes of a driver to one that is not right on a map of up to four places.
func wrongDrivers() []func(d *api.Driver) {
	var l []func(d *api.Driver)
	add := func(turn func(d *api.Driver)) { l = append(l, turn) }
	add(func(d *api.Driver) { *d = api.Driver{} })
	for _, n := range beyond() {
		add(func(d *api.Driver) { d.Id = n })
	}
	for _, n := range []int{0, -1, biggest + 1, 1<<32 + 3, least, greatest} {
		add(func(d *api.Driver) { d.Room = n })
	}
	for _, n := range []int{-1, 4, places, 1 << 32, least, greatest} {
		add(func(d *api.Driver) { d.Home = n })
	}
	for _, w := range wrongWindows() {
		add(func(d *api.Driver) { d.Window = w })
	}
	return l
}

// wrongOrders returns changes of an order to one that is not right on a map of up to four places.
func wrongOrders() []func(o *api.Order) {
	var l []func(o *api.Order)
	add := func(turn func(o *api.Order)) { l = append(l, turn) }
	add(func(o *api.Order) { *o = api.Order{} })
	for _, n := range beyond() {
		add(func(o *api.Order) { o.Id = n })
	}
	for _, n := range []int{0, -1, biggest + 1, 1<<32 + 3, least, greatest} {
		add(func(o *api.Order) { o.Size = n })
	}
	for _, n := range []int{-1, 4, places, 1 << 32, least, greatest} {
		add(func(o *api.Order) { o.Pick.Place = n })
		add(func(o *api.Order) { o.Drop.Place = n })
	}
	for _, w := range wrongWindows() {
		add(func(o *api.Order) { o.Pick.Window = w })
		add(func(o *api.Order) { o.Drop.Window = w })
	}
	for _, n := range []int{-1, longest + 1, 1 << 32, least, greatest} {
		add(func(o *api.Order) { o.Pick.Service = n })
		add(func(o *api.Order) { o.Drop.Service = n })
	}
	return l
}

// wrongBudgets holds numbers that are not from 0 to MaxBudget.
func wrongBudgets() []int {
	return []int{-1, -2, budgets + 1, budgets + 2, 1 << 32, 1<<32 + 9, -1 << 32, least, least + 1, greatest - 1, greatest}
}

// copied returns j with lists of its own.
func copied(j job) job {
	j.orders, j.r.Stops = slices.Clone(j.orders), slices.Clone(j.r.Stops)
	return j
}

// jobs returns jobs at which nothing is wrong: a route with stops, with some done or all, and without any; a driver that is
// retired, a route that has no room, and both; and as many orders as there may be.
func jobs(t *testing.T) []job {
	t.Helper()
	some, all, idle, gone := street(t).job(0), street(t).job(0), street(t).job(2), street(t).job(0)
	some.r.Served, all.r.Served, gone.d.Retired = 1, 2, true
	full, both := yard(t, most, most), yard(t, most, most)
	both.d.Retired = true
	return []job{street(t).job(0), example(t), some, all, idle, gone, full, both, yard(t, most, 1)}
}

// checkArg holds that Best refuses the job, whatever the budget.
func checkArg(t *testing.T, j job) {
	t.Helper()
	for _, budget := range []int{-1, 0, 1, 9, budgets} {
		checkBest(t, j, budget, refused(api.ErrArg))
	}
}

// P12.2: no map
func TestNoMap(t *testing.T) {
	checkArg(t, job{})
	for _, j := range jobs(t) {
		j.m = nil
		checkArg(t, j)
		j.orders, j.r.Stops, j.r.Served = nil, nil, 0
		checkArg(t, j)
	}
}

// P12.2: a driver that is not right, whether or not the route has its Id
func TestDriverWrong(t *testing.T) {
	for _, j := range jobs(t) {
		for _, turn := range wrongDrivers() {
			other := j
			turn(&other.d)
			checkArg(t, other)
			other.r.Driver = other.d.Id
			checkArg(t, other)
			other.orders, other.r.Stops, other.r.Served = nil, nil, 0
			checkArg(t, other)
		}
	}
}

// P12.2: an order to be put in that is not right
func TestOrderWrong(t *testing.T) {
	for _, j := range jobs(t) {
		for _, turn := range wrongOrders() {
			other := j
			turn(&other.o)
			checkArg(t, other)
			other.orders, other.r.Stops, other.r.Served = nil, nil, 0
			checkArg(t, other)
		}
	}
}

// P12.2: an order to be put in that has the Id of another one, with stops on the route or without, or of itself
func TestOrderListed(t *testing.T) {
	for _, j := range jobs(t) {
		for i, o := range j.orders {
			other := copied(j)
			other.o.Id = o.Id
			checkArg(t, other)
			other.o = o
			checkArg(t, other)
			other = copied(j)
			other.orders[i].Id = j.o.Id
			checkArg(t, other)
		}
		// Only stops of it are there.
		if !j.d.Retired && len(j.r.Stops) <= crowd-2 {
			for i := range len(j.r.Stops) + 1 {
				other := copied(j)
				other.r.Stops = slices.Insert(other.r.Stops, i, p(j.o.Id), q(j.o.Id))
				checkArg(t, other)
			}
		}
	}
}

// P12.2: orders that are not known: one that is not right, at each place, two of one Id, and too many
func TestOrdersNotKnown(t *testing.T) {
	for _, j := range jobs(t) {
		for i := range j.orders {
			for k, turn := range wrongOrders() {
				other := copied(j)
				turn(&other.orders[i])
				checkBest(t, other, 9, refused(api.ErrArg))
				if k%8 == 0 {
					other.r.Stops, other.r.Served = nil, 0
					checkArg(t, other)
				}
			}
			for k := range j.orders {
				other := copied(j)
				other.orders = append(other.orders, j.orders[k])
				checkBest(t, other, 9, refused(api.ErrArg))
				if i != k {
					other = copied(j)
					other.orders[i].Id = other.orders[k].Id
					checkBest(t, other, 9, refused(api.ErrArg))
				}
			}
		}
	}
	for _, n := range []int{most + 1, most + 2, 2 * most, 256, 256 + 1} {
		checkArg(t, yard(t, n, 0))
		checkArg(t, yard(t, n, 3))
	}
}

// P12.2: a route of another driver
func TestOtherDriver(t *testing.T) {
	for _, j := range jobs(t) {
		for _, id := range append(beyond(), j.d.Id-1, j.d.Id+1, -j.d.Id, 1<<32+j.d.Id, highest) {
			other := j
			other.r.Driver = id
			checkArg(t, other)
			if 1 <= id && id <= highest {
				other = j
				other.d.Id = id
				checkArg(t, other)
			}
		}
	}
}

// P12.2: a Served that can't be
func TestServedWrong(t *testing.T) {
	for _, j := range jobs(t) {
		n := len(j.r.Stops)
		for _, served := range []int{-1, -2, -n - 1, n + 1, n + 2, 2*n + 1, 1 << 32, least, least + 1, greatest - 1, greatest} {
			j.r.Served = served
			checkArg(t, j)
		}
	}
}

// P12.2: a budget that can't be, and the least and greatest ones that can
func TestBudgetWrong(t *testing.T) {
	for _, j := range jobs(t) {
		for _, budget := range wrongBudgets() {
			checkBest(t, j, budget, refused(api.ErrArg))
		}
		for _, budget := range []int{0, 1, budgets - 1, budgets} {
			if a := best(t, j, budget); a.why == api.ErrArg || a.steps > budget {
				t.Fatalf("Best(%+v, %d) = %v", j, budget, a)
			}
		}
	}
}

// faults returns the street's first route with a Fault of each kind, for a driver that has Room for one order of size 1.
func faults(t *testing.T) []job {
	t.Helper()
	var l []job
	for _, stops := range [][]api.Stop{
		{p(6)}, {q(6)}, {q(6), p(6)}, {p(6), p(6)}, {p(6), q(6), q(6)}, {p(6), q(6), p(6)}, {p(6), q(6), p(3)}, {p(6), q(3)},
		{p(7), q(7)}, {p(6), q(6), p(9), q(9)}, {p(0), q(0)}, {p(-1)}, {p(least)}, {p(greatest)}, {p(6), p(3), q(6), q(3)},
		make([]api.Stop, crowd), make([]api.Stop, crowd+1),
	} {
		j := street(t).job(0)
		j.d.Room, j.r.Stops = 1, stops
		l = append(l, j)
	}
	for _, turn := range []func(j *job){
		func(j *job) { j.d.To = 29 },
		func(j *job) { j.orders[0].Pick.To = 9 },
		func(j *job) { j.orders[0].Drop.To = 29 },
		func(j *job) { j.orders[0].Size = 10 },
		func(j *job) { j.orders[0].Drop.Service = longest },
		func(j *job) { j.orders = nil },
	} {
		j := street(t).job(0)
		turn(&j)
		l = append(l, j)
	}
	return l
}

// P12.2: a route with a Fault, even where the order put in would cure it
func TestRouteWithFault(t *testing.T) {
	for _, j := range faults(t) {
		checkArg(t, j)
		j.r.Served = len(j.r.Stops)
		checkArg(t, j)
	}
	// Through 2 the driver would be in time.
	j := job{m: made(t, 3, 0, 50, 1, 50, 0, 50, 50, 1, 0), d: api.Driver{Id: 1, Room: 9, Window: window(0, 100)}}
	j.orders = []api.Order{errand(1, 0, 1)}
	j.r, j.o = drive(1, p(1), q(1)), errand(2, 2, 2)
	checkBest(t, j, plenty, found(spot(1, 1, 1, -48), 6))
	j.orders[0].Drop.To = 49
	checkArg(t, j)
	j.orders[0].Drop.To = 50
	checkBest(t, j, plenty, found(spot(1, 1, 1, -48), 6))
}

// P12.2: which of several errors comes first: ErrArg, for whatever reason, then ErrGone, then ErrFull
func TestFirstError(t *testing.T) {
	full := yard(t, most, most)
	gone := full
	gone.d.Retired = true
	for _, budget := range []int{0, 1, 9, budgets} {
		checkBest(t, full, budget, refused(api.ErrFull))
		checkBest(t, gone, budget, refused(api.ErrGone))
		for _, short := range jobs(t) {
			short.d.Retired = true
			checkBest(t, short, budget, refused(api.ErrGone))
		}
	}
	for _, j := range append(faults(t), full) {
		j.d.Retired = true
		for _, turn := range []func(j *job){
			func(j *job) { j.m = nil },
			func(j *job) { j.d.Room = 0 },
			func(j *job) { j.o.Size = 0 },
			func(j *job) { j.orders = append(j.orders[:len(j.orders):len(j.orders)], api.Order{}) },
			func(j *job) { j.orders = append(j.orders[:len(j.orders):len(j.orders)], j.o) },
			func(j *job) { j.r.Driver++ },
			func(j *job) { j.r.Served = -1 },
			func(j *job) { j.r.Served = len(j.r.Stops) + 1 },
			func(j *job) { j.r.Stops = append(j.r.Stops[:len(j.r.Stops):len(j.r.Stops)], q(50)) },
		} {
			other := j
			turn(&other)
			checkArg(t, other)
		}
		for _, budget := range wrongBudgets() {
			checkBest(t, j, budget, refused(api.ErrArg))
		}
	}
}

// P12.2: what is right at the bounds is not refused.
func TestAtBounds(t *testing.T) {
	m := made(t, places, make([]int, places*places)...)
	for _, d := range []api.Driver{
		{Id: 1, Room: 1, Window: window(0, 0)},
		{Id: highest, Room: biggest, Home: places - 1, Window: window(0, longest)},
		{Id: highest - 1, Room: 1, Home: 1, Window: window(longest, longest)},
	} {
		o := api.Order{Id: 1, Size: 1, Pick: site(0, 0, longest, 0), Drop: site(places-1, 0, longest, 0)}
		j := job{m: m, d: d, r: drive(d.Id), o: o}
		checkBest(t, j, 1, found(spot(d.Id, 0, 0, 0), 1))
		j.o.Id, j.o.Size = highest, d.Room
		checkBest(t, j, budgets, found(spot(d.Id, 0, 0, 0), 1))
		j.o.Pick.Service, j.o.Drop.Service = longest, longest
		checkBest(t, j, budgets, nowhere(1))
		j.o.Size = biggest
		checkBest(t, j, 0, nowhere(0))
	}
	j := job{m: m, d: api.Driver{Id: 4, Room: 1, Window: window(0, longest)}, r: drive(4), o: errand(1, 0, 0)}
	j.o.Drop.Service = longest
	checkBest(t, j, 1, found(spot(4, 0, 0, 0), 1))
	j.o.Pick.Service = 1
	checkBest(t, j, 1, nowhere(1))
}
