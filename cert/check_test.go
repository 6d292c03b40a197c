package cert_test

import (
	"slices"
	"testing"

	"dray/api"
)

// number is one of the numbers of a Visit, and what Check says where it is another one.
type number struct {
	name string
	of   func(v *api.Visit) *int
	why  api.Errno
}

func numbers() []number {
	return []number{
		{"Order", func(v *api.Visit) *int { return &v.Order }, api.ErrForm},
		{"Arrive", func(v *api.Visit) *int { return &v.Arrive }, api.ErrLate},
		{"Begin", func(v *api.Visit) *int { return &v.Begin }, api.ErrLate},
		{"Leave", func(v *api.Visit) *int { return &v.Leave }, api.ErrLate},
		{"Load", func(v *api.Visit) *int { return &v.Load }, api.ErrLoad},
	}
}

// others returns numbers that are not n: next to it, its opposite, what is left of it in fewer bits, and far ones.
func others(n int) []int {
	l := []int{
		n + 1, n - 1, n + 2, n - 2, -n, -n - 1, 0, -1, n + 1<<8, n + 1<<16, n + 1<<32, n - 1<<32, n ^ least,
		longest, longest + 1, least, least + 1, greatest - 1, greatest,
	}
	return slices.DeleteFunc(l, func(other int) bool { return other == n })
}

// forVisits hands on each Visit of the certificate of the town, in a copy of its own.
func forVisits(t *testing.T, f func(w world, c api.Cert, k, i int)) {
	t.Helper()
	w, right := town(t)
	for k := range right {
		for i := range right[k] {
			f(w, copied(right), k, i)
		}
	}
}

// P10.3: another number, in each number of each Visit
func TestOneNumber(t *testing.T) {
	forVisits(t, func(w world, c api.Cert, k, i int) {
		for _, x := range numbers() {
			was := *x.of(&c[k][i])
			for _, n := range others(was) {
				*x.of(&c[k][i]) = n
				checkFault(t, w, c, k, x.why)
			}
			*x.of(&c[k][i]) = was
			checkFault(t, w, c, 0, api.OK)
		}
		c[k][i].Drop = !c[k][i].Drop
		checkFault(t, w, c, k, api.ErrForm)
	})
}

// P10.3: with one number wrong, all others may have any value: what comes first is told.
func TestOneNumberAndAnyOthers(t *testing.T) {
	forVisits(t, func(w world, c api.Cert, k, i int) {
		right := c[k][i]
		for _, n := range []int{1, -1, least, greatest, 1 << 32} {
			for wrong := 1; wrong < 1<<4; wrong++ {
				v, why := right, api.ErrLate
				for bit, x := range numbers()[1:] {
					if wrong>>bit&1 == 1 {
						*x.of(&v) += n
					}
				}
				if v.Load != right.Load {
					why = api.ErrLoad
				}
				c[k][i] = v
				checkFault(t, w, c, k, why)
			}
		}
	})
}

// P10.3: loads that are off from some Visit on, each the right way from the one ahead but the first
func TestLoadsOff(t *testing.T) {
	w := loose(t)
	for i := range w.drivers {
		// The Room is not what keeps them from being greater.
		w.drivers[i].Room = biggest
	}
	near, _ := town(t)
	for _, w := range []world{w, near} {
		right := walked(w)
		for k := range right {
			for i, v := range right[k] {
				_, more, _ := w.site(v.Stop)
				// Among them a pickup that takes away or changes nothing, and a delivery that adds or changes nothing.
				for _, n := range []int{1, -1, 2, -5, -more, -2 * more, 1 << 32, least} {
					checkFault(t, w, turned(w, right, k, i, func(v *api.Visit) { v.Load += n }), k, api.ErrLoad)
				}
			}
		}
	}
}

// P10.3: a driver that arrives, begins or leaves later or earlier than it can, from some Visit on, each time the right way
// from the one ahead but the first
func TestTimesOff(t *testing.T) {
	w := loose(t)
	right := walked(w)
	for k := range right {
		for i := range right[k] {
			for _, n := range []int{1, -1, 3, -2, 1 << 32} {
				for from := range 3 {
					c := turned(w, right, k, i, func(v *api.Visit) {
						for _, x := range numbers()[1+from : 4] {
							*x.of(v) += n
						}
					})
					checkFault(t, w, c, k, api.ErrLate)
				}
			}
		}
	}
}

// P10.3: a driver that leaves at 0 or later than it could, or is elsewhere than at Home
func TestBeginnings(t *testing.T) {
	for k := range 4 {
		for _, turn := range []func(d *api.Driver){
			func(d *api.Driver) { d.From++ },
			func(d *api.Driver) { d.From-- },
			func(d *api.Driver) { d.From = 0 },
			func(d *api.Driver) { d.Home = (d.Home + 1) % 3 },
			func(d *api.Driver) { d.Home = (d.Home + 2) % 3 },
		} {
			w := loose(t)
			for i := range w.drivers {
				w.drivers[i].From = 5
			}
			c := walked(w)
			i := slices.IndexFunc(w.drivers, func(d api.Driver) bool { return d.Id == w.plan[k].Driver })
			turn(&w.drivers[i])
			if len(c[k]) == 0 {
				checkFault(t, w, c, 0, api.OK)
			} else {
				checkFault(t, w, c, k, api.ErrLate)
			}
			checkMade(t, w, walked(w))
		}
	}
}

// P10.3: each way that is driven counts, in its direction.
func TestOtherWays(t *testing.T) {
	w := loose(t)
	c := walked(w)
	driven := [][2]int{{0, 1}, {1, 2}, {2, 0}, {0, 2}}
	for a := range 3 {
		for b := range 3 {
			if a == b {
				continue
			}
			times := w.m.Times()
			times[3*a+b]++
			w.m = made(t, 3, times...)
			if f := check(t, w, c); f.Good() == slices.Contains(driven, [2]int{a, b}) {
				t.Errorf("with another time from %d to %d: %v", a, b, f)
			}
			times[3*a+b]--
			w.m = made(t, 3, times...)
		}
	}
	checkFault(t, w, c, 0, api.OK)
}

// P10.3: the Size and the Services of each order with stops count, and those of one without do not.
func TestOtherOrders(t *testing.T) {
	for i := range 7 {
		for _, turn := range []struct {
			why api.Errno
			of  func(o *api.Order) *int
		}{
			{api.ErrLoad, func(o *api.Order) *int { return &o.Size }},
			{api.ErrLate, func(o *api.Order) *int { return &o.Pick.Service }},
			{api.ErrLate, func(o *api.Order) *int { return &o.Drop.Service }},
		} {
			w := loose(t)
			c := walked(w)
			o := &w.orders[i]
			*turn.of(o)++
			if k := slices.IndexFunc(w.plan, func(r api.Route) bool { return slices.Contains(r.Stops, p(o.Id)) }); k >= 0 {
				checkFault(t, w, c, k, turn.why)
			} else {
				checkFault(t, w, c, 0, api.OK)
			}
		}
	}
}

// P10.3: fewer lists, more of them and none, whatever is wrong with a route
func TestNumbersOfLists(t *testing.T) {
	w, c := town(t)
	unknown, late := w, loose(t)
	unknown.drivers = nil
	late.drivers[0].To = 1
	for _, w := range []world{w, unknown, late} {
		for n := range len(c) {
			checkFault(t, w, c[:n], 0, api.ErrForm)
			checkFault(t, w, c[n+1:], 0, api.ErrForm)
			checkFault(t, w, make(api.Cert, n), 0, api.ErrForm)
			checkFault(t, w, slices.Delete(copied(c), n, n+1), 0, api.ErrForm)
			checkFault(t, w, slices.Insert(copied(c), n, nil), 0, api.ErrForm)
			checkFault(t, w, slices.Insert(copied(c), n, c[n]), 0, api.ErrForm)
		}
		checkFault(t, w, nil, 0, api.ErrForm)
		for n := 1; n < 300; n *= 2 {
			checkFault(t, w, append(copied(c), make(api.Cert, n)...), 0, api.ErrForm)
			checkFault(t, w, append(copied(c), slices.Repeat(c[:1], n)...), 0, api.ErrForm)
		}
	}
	// All visits in one list, and each in a list of its own.
	checkFault(t, w, api.Cert{slices.Concat(c...)}, 0, api.ErrForm)
	var each api.Cert
	for _, v := range slices.Concat(c...) {
		each = append(each, []api.Visit{v})
	}
	checkFault(t, w, each, 0, api.ErrForm)
	w.plan = nil
	for n := 1; n <= fleet; n++ {
		checkFault(t, w, make(api.Cert, n), 0, api.ErrForm)
	}
}

// P10.3: routes without stops have lists without Visits.
func TestListsWithoutVisits(t *testing.T) {
	w, _ := town(t)
	w.plan = api.Plan{drive(3), drive(5), drive(7), drive(9), drive(12)}
	for _, list := range [][]api.Visit{nil, {}} {
		checkMade(t, w, slices.Repeat(api.Cert{list}, 5))
	}
	for k := range w.plan {
		for _, v := range []api.Visit{{}, visit(p(60), 0, 0, 0, 5), visit(p(99), 0, 0, 0, 0), visit(q(0), least, least, least, 0)} {
			c := make(api.Cert, 5)
			c[k] = []api.Visit{v}
			checkFault(t, w, c, k, api.ErrForm)
		}
		unknown := w
		unknown.plan = slices.Clone(w.plan[:k+1])
		unknown.plan[k].Driver++
		checkNotMade(t, unknown, k, api.ErrNone)
	}
}

// P10.3: lists with Visits less, at each place, and more
func TestNumbersOfVisits(t *testing.T) {
	forVisits(t, func(w world, c api.Cert, k, i int) {
		right := c[k]
		for _, visits := range [][]api.Visit{
			right[:i], right[i+1:], slices.Delete(slices.Clone(right), i, i+1), slices.Insert(slices.Clone(right), i, right[i]),
			slices.Insert(slices.Clone(right), i, api.Visit{}), append(slices.Clone(right), right[i]),
			append(slices.Clone(right), make([]api.Visit, i+1)...), slices.Concat(right, right), make([]api.Visit, 1<<10),
		} {
			c[k] = visits
			checkFault(t, w, c, k, api.ErrForm)
		}
	})
	w, c := town(t)
	for k := range c {
		for i := range c {
			// Behind the end of the route, nothing may stand, even if it is what another driver does.
			other := copied(c)
			other[k] = slices.Concat(c[k], c[i])
			if len(c[i]) > 0 {
				checkFault(t, w, other, k, api.ErrForm)
			} else {
				checkFault(t, w, other, 0, api.OK)
			}
		}
	}
}

// P10.3: lists with another Stop at each place, with all numbers as they were, and lists that are not in their order
func TestOtherStops(t *testing.T) {
	forVisits(t, func(w world, c api.Cert, k, i int) {
		right := c[k]
		stops := []api.Stop{{}, p(70), q(70), p(99), q(99), {Order: right[i].Order, Drop: !right[i].Drop}}
		for _, r := range w.plan {
			stops = append(stops, r.Stops...)
		}
		for _, s := range stops {
			if s != right[i].Stop {
				c[k] = slices.Clone(right)
				c[k][i].Stop = s
				checkFault(t, w, c, k, api.ErrForm)
			}
		}
		for j := range i {
			c[k] = slices.Clone(right)
			c[k][i], c[k][j] = right[j], right[i]
			checkFault(t, w, c, k, api.ErrForm)
			c[k][i], c[k][j] = right[i], right[j]
			c[k][i].Stop, c[k][j].Stop = right[j].Stop, right[i].Stop
			checkFault(t, w, c, k, api.ErrForm)
		}
	})
	w, c := town(t)
	for k := range c {
		for j := range k {
			other := copied(c)
			other[k], other[j] = c[j], c[k]
			checkFault(t, w, other, j, api.ErrForm)
		}
	}
}

// P10.3: an unknown driver goes ahead of its list, whatever stands in that.
func TestUnknownDriverAndList(t *testing.T) {
	for k := range 4 {
		w, right := town(t)
		i := slices.IndexFunc(w.drivers, func(d api.Driver) bool { return d.Id == w.plan[k].Driver })
		w.drivers[i].Id = 8
		for _, visits := range [][]api.Visit{nil, right[k], right[0], right[1], {{}}, make([]api.Visit, 300)} {
			c := copied(right)
			c[k] = visits
			checkFault(t, w, c, k, api.ErrNone)
		}
		checkNotMade(t, w, k, api.ErrNone)
		w.drivers = slices.Delete(w.drivers, i, i+1)
		checkNotMade(t, w, k, api.ErrNone)
	}
}

// P10.2 and P10.3: stops of no such order, at each place; the Visits of it may say anything.
func TestUnknownOrder(t *testing.T) {
	forVisits(t, func(w world, c api.Cert, k, i int) {
		for _, id := range []int{1, 71, highest} {
			for _, s := range []api.Stop{p(id), q(id)} {
				other := w
				other.plan = slices.Clone(w.plan)
				other.plan[k].Stops = slices.Clone(w.plan[k].Stops)
				other.plan[k].Stops[i] = s
				checkNotMade(t, other, k, api.ErrNone)
				for _, n := range []int{0, 1, -1, least, greatest} {
					c[k][i] = visit(s, n, n, n, n)
					checkFault(t, other, c, k, api.ErrNone)
				}
			}
		}
	})
	w, _ := town(t)
	for i, o := range w.orders {
		less := w
		less.orders = slices.Delete(slices.Clone(w.orders), i, i+1)
		if k := slices.IndexFunc(w.plan, func(r api.Route) bool { return slices.Contains(r.Stops, p(o.Id)) }); k >= 0 {
			checkNotMade(t, less, k, api.ErrNone)
		} else {
			checkMade(t, less, walked(w))
		}
	}
}

// P10.2 and P10.3: deliveries whose pickups stand nowhere, behind them, or on another route, ahead of theirs or behind it
func TestNoPickup(t *testing.T) {
	for _, c := range []struct {
		plan api.Plan
		at   int
		why  api.Errno
	}{
		{api.Plan{drive(7, q(20))}, 0, api.ErrFirst},
		{api.Plan{drive(3), drive(7), drive(12, q(60))}, 2, api.ErrFirst},
		{api.Plan{drive(7, q(20), p(20))}, 0, api.ErrFirst},
		{api.Plan{drive(3), drive(7, p(20), q(30), p(30), q(20))}, 1, api.ErrFirst},
		{api.Plan{drive(7, p(20), p(30), q(20), q(10), q(30), p(10))}, 0, api.ErrFirst},
		{api.Plan{drive(5, p(70), q(20), q(70))}, 0, api.ErrFirst},
		{api.Plan{drive(3, q(20)), drive(5, p(20))}, 0, api.ErrFirst},
		{api.Plan{drive(3, p(20)), drive(5, q(20))}, 0, api.ErrLack},
		{api.Plan{drive(3, p(70), q(70)), drive(5, p(20), q(30), q(20)), drive(7, p(30))}, 1, api.ErrFirst},
		// What is loaded is not what is asked: another order's pickup does not serve.
		{api.Plan{drive(5, p(70), q(20))}, 0, api.ErrFirst},
		{api.Plan{drive(5, p(20), q(70))}, 0, api.ErrFirst},
	} {
		w := loose(t)
		for i := range w.drivers {
			w.drivers[i].Room = biggest
		}
		w.plan = c.plan
		checkNotMade(t, w, c.at, c.why)
	}
	// Neither do times and loads that would be right with the pickup ahead.
	w, c := example(t)
	w.plan[0].Stops = []api.Stop{q(1)}
	for _, v := range []api.Visit{c[0][1], visit(q(1), 1, 1, 3, -3), visit(q(1), 1, 1, 3, 0), visit(q(1), 1, 1, 3, 3)} {
		checkFault(t, w, api.Cert{{v}}, 0, api.ErrFirst)
	}
}

// P10.2 and P10.3: loads at a driver's Room and greater, at each Visit
func TestRoom(t *testing.T) {
	w, right := town(t)
	for k, visits := range right {
		i := slices.IndexFunc(w.drivers, func(d api.Driver) bool { return d.Id == w.plan[k].Driver })
		for room := 1; room <= 12; room++ {
			other := w
			other.drivers = slices.Clone(w.drivers)
			other.drivers[i].Room = room
			if slices.ContainsFunc(visits, func(v api.Visit) bool { return v.Load > room }) {
				checkNotMade(t, other, k, api.ErrLoad)
			} else {
				checkMade(t, other, right)
			}
			// The Room of one is not that of others.
			for j := range other.drivers {
				if j != i {
					other.drivers[j].Room = w.drivers[j].Room + 1
				}
			}
			if f := check(t, other, right); !f.Good() && f != (api.Fault{At: k, Why: api.ErrLoad}) {
				t.Errorf("with the Room %d on route %d: %v", room, k, f)
			}
		}
	}
	for _, size := range []int{1, biggest - 1, biggest} {
		for _, room := range []int{1, biggest - 1, biggest} {
			w, _ := example(t)
			w.orders[0].Size, w.drivers[0].Room = size, room
			if size > room {
				checkNotMade(t, w, 0, api.ErrLoad)
			} else {
				checkMade(t, w, walked(w))
			}
		}
	}
}

// P10.2 and P10.3: something is loaded at the end, of one order or several, and nothing else is wrong.
func TestLack(t *testing.T) {
	for _, stops := range [][]api.Stop{
		{p(1)}, {p(1), p(2)}, {p(1), p(2), q(2)}, {p(2), p(1), q(2)}, {p(1), q(1), p(2)}, {p(1), p(2), q(1), p(3), p(4), q(3)},
		{p(1), p(2), p(3), p(4)},
	} {
		w := yard(t, 1, 4)
		w.plan[0].Stops = stops
		checkNotMade(t, w, 0, api.ErrLack)
		c := walked(w)
		c[0][len(c[0])-1].Load = 0
		checkFault(t, w, c, 0, api.ErrLoad)
		w.plan = append(api.Plan{drive(5)}, w.plan...)
		w.drivers = append(w.drivers, api.Driver{Id: 5, Room: 1, Window: window(0, 0)})
		checkNotMade(t, w, 1, api.ErrLack)
	}
	// Of every route of the town the last stops are taken away.
	for k := range 4 {
		w := loose(t)
		for len(w.plan[k].Stops) > 0 {
			w.plan[k].Stops = w.plan[k].Stops[:len(w.plan[k].Stops)-1]
			load := 0
			for _, s := range w.plan[k].Stops {
				_, more, _ := w.site(s)
				load += more
			}
			if load > 0 {
				checkNotMade(t, w, k, api.ErrLack)
			} else {
				checkMade(t, w, walked(w))
			}
		}
	}
}

// P10.2 and P10.3: MaxStops stops, with each number of each Visit off
func TestMostStops(t *testing.T) {
	w := yard(t, 1, most)
	right := walked(w)
	if len(right[0]) != crowd {
		t.Fatalf("%d visits", len(right[0]))
	}
	checkMade(t, w, right)
	for i := range crowd {
		for _, x := range numbers() {
			for _, n := range []int{1, -1, greatest, least} {
				c := copied(right)
				*x.of(&c[0][i]) += n
				checkFault(t, w, c, 0, x.why)
			}
		}
	}
	w.drivers[0].Room = most - 1
	checkNotMade(t, w, 0, api.ErrLoad)
}
