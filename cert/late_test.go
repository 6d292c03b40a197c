package cert_test

import (
	"slices"
	"testing"

	"dray/api"
)

// siteOf returns the site of a stop whose order is known, to be changed.
func siteOf(w world, s api.Stop) *api.Site {
	i := slices.IndexFunc(w.orders, func(o api.Order) bool { return o.Id == s.Order })
	if s.Drop {
		return &w.orders[i].Drop
	}
	return &w.orders[i].Pick
}

// driverOf returns the driver of route k, who is known, to be changed.
func driverOf(w world, k int) *api.Driver {
	i := slices.IndexFunc(w.drivers, func(d api.Driver) bool { return d.Id == w.plan[k].Driver })
	return &w.drivers[i]
}

// forStops hands on each stop of the loose town, in a world of its own, with its Visit.
func forStops(t *testing.T, f func(w world, k, i int, v api.Visit)) {
	t.Helper()
	for k, visits := range walked(loose(t)) {
		for i, v := range visits {
			f(loose(t), k, i, v)
		}
	}
}

// P10.2 and P10.3: arrivals ahead of the Site's Window, at its beginning, in it, at its end and behind it
func TestArrivals(t *testing.T) {
	forStops(t, func(w world, k, i int, v api.Visit) {
		s := siteOf(w, v.Stop)
		for from := max(v.Arrive-3, 0); from <= v.Arrive+3; from++ {
			for to := from; to <= v.Arrive+4; to++ {
				s.Window = window(from, to)
				if v.Arrive > to {
					checkNotMade(t, w, k, api.ErrLate)
				} else {
					checkMade(t, w, walked(w))
				}
			}
		}
	})
}

// P10.3: a service begins neither ahead of what span.Begin tells nor behind it, in the Window or not, and all Visits behind
// may come from it as they do.
func TestBegins(t *testing.T) {
	forStops(t, func(w world, k, i int, v api.Visit) {
		s := siteOf(w, v.Stop)
		for _, from := range []int{v.Arrive + 2, v.Arrive, max(v.Arrive-2, 0)} {
			s.Window = window(from, v.Arrive+3)
			right := walked(w)
			for begin := min(from, v.Arrive) - 2; begin <= v.Arrive+5; begin++ {
				c := turned(w, right, k, i, func(v *api.Visit) { v.Begin, v.Leave = begin, begin+s.Service })
				if begin == max(from, v.Arrive) {
					checkFault(t, w, c, 0, api.OK)
				} else {
					checkFault(t, w, c, k, api.ErrLate)
				}
			}
		}
	})
}

// P10.3: where a Window is over, no beginning is right: neither the arrival, nor an end of the Window, nor the 0 that
// span.Begin returns beside false.
func TestBeginsWhereNoneCan(t *testing.T) {
	late := 0
	forStops(t, func(w world, k, i int, v api.Visit) {
		for to := range v.Arrive {
			late++
			s := siteOf(w, v.Stop)
			s.Window = window(to/2, to)
			for _, begin := range []int{0, to / 2, to, to + 1, v.Arrive, v.Arrive - 1, v.Arrive + 1, least, greatest - longest} {
				c := turned(w, walked(w), k, i, func(v *api.Visit) { v.Begin, v.Leave = begin, begin+s.Service })
				checkFault(t, w, c, k, api.ErrLate)
			}
		}
	})
	if late == 0 {
		t.Error("no Window was over")
	}
}

// P10.3: an arrival that is not the right one, from which all goes on as it does: early enough for a Window that is over,
// or within it for one that has not begun
func TestArrivesOtherwise(t *testing.T) {
	forStops(t, func(w world, k, i int, v api.Visit) {
		s := siteOf(w, v.Stop)
		for _, over := range []api.Window{window(0, max(v.Arrive-1, 0)), window(v.Arrive+1, v.Arrive+9), window(v.Arrive, v.Arrive)} {
			s.Window = over
			for _, arrive := range []int{0, over.From, over.To, v.Arrive - 1, v.Arrive + 1, least, 1<<32 + v.Arrive} {
				if arrive == v.Arrive {
					continue
				}
				c := turned(w, walked(w), k, i, func(v *api.Visit) {
					v.Arrive, v.Begin = arrive, max(arrive, over.From)
					v.Leave = v.Begin + s.Service
				})
				checkFault(t, w, c, k, api.ErrLate)
			}
		}
	})
}

// P10.2 and P10.3: a driver that leaves at the end of its Window, behind it and ahead of it, at the first, a middle and the
// last Visit
func TestDriverEnds(t *testing.T) {
	forStops(t, func(w world, k, i int, v api.Visit) {
		d := driverOf(w, k)
		right := walked(w)
		last := right[k][len(right[k])-1].Leave
		for to := max(v.Leave-2, d.From); to <= v.Leave+2; to++ {
			d.To = to
			if to < last {
				checkNotMade(t, w, k, api.ErrLate)
			} else {
				checkMade(t, w, right)
			}
		}
		// One unit of Service more, and the last Visit's ends too late, whichever it was.
		d.To = last
		checkMade(t, w, right)
		siteOf(w, v.Stop).Service++
		checkNotMade(t, w, k, api.ErrLate)
	})
}

// P10.3: the end of one driver's Window is not that of another's.
func TestOneDriverEnds(t *testing.T) {
	for k := range 4 {
		w := loose(t)
		right := walked(w)
		for i := range w.drivers {
			w.drivers[i].To = 200
		}
		checkMade(t, w, right)
		if len(right[k]) > 0 {
			driverOf(w, k).To = right[k][len(right[k])-1].Leave - 1
			checkNotMade(t, w, k, api.ErrLate)
		} else {
			driverOf(w, k).To = driverOf(w, k).From
			checkMade(t, w, right)
		}
	}
}

// P10.2 and P10.3: a Visit that is late goes ahead of all that is wrong with those behind it, and behind all that is wrong
// with those ahead.
func TestLateAndWrongStops(t *testing.T) {
	late := []func(w world){
		func(w world) { w.orders[0].Pick.To = 9 },
		func(w world) { w.orders[0].Pick.Service = 91 },
		func(w world) { w.drivers[0].Window = window(0, 99); w.orders[0].Pick.From = 100 },
	}
	for _, c := range []struct {
		stops []api.Stop
		why   api.Errno
	}{
		{[]api.Stop{p(9)}, api.ErrNone}, {[]api.Stop{q(9)}, api.ErrNone}, {[]api.Stop{q(2)}, api.ErrFirst},
		{[]api.Stop{p(2), q(3), q(2)}, api.ErrFirst}, {[]api.Stop{p(2), p(3), p(4), q(2)}, api.ErrLoad},
		{[]api.Stop{p(2)}, api.ErrLack}, {nil, api.OK},
	} {
		for _, turn := range late {
			w := yard(t, 1, 4)
			w.drivers[0].Room = 2
			w.plan[0].Stops = slices.Concat([]api.Stop{p(1), q(1)}, c.stops)
			checkFault(t, w, walked(w), 0, c.why)
			turn(w)
			checkNotMade(t, w, 0, api.ErrLate)
			w.plan[0].Stops = slices.Concat(c.stops, []api.Stop{p(1), q(1)})
			if c.why == api.OK || c.why == api.ErrLack {
				checkNotMade(t, w, 0, api.ErrLate)
			} else {
				checkNotMade(t, w, 0, c.why)
			}
		}
	}
}

// P10.2 and P10.3: at the greatest times, where sums are beyond MaxTime
func TestLongest(t *testing.T) {
	m := made(t, 2, 0, longest, longest, 0)
	at := func(place, service int) api.Site { return site(place, 0, longest, service) }
	for _, c := range []struct {
		w          api.Window
		pick, drop api.Site
		good       bool
	}{
		{window(0, longest), at(1, 0), at(1, 0), true},
		{window(0, longest), at(0, 0), at(1, 0), true},
		{window(0, longest), at(1, 0), at(1, 1), false},
		{window(0, longest), at(1, 0), at(0, 0), false},
		{window(0, longest), at(1, 1), at(1, 0), false},
		{window(1, longest), at(1, 0), at(1, 0), false},
		{window(0, longest-1), at(1, 0), at(1, 0), false},
		{window(0, longest), at(0, longest), at(0, 0), true},
		{window(0, longest), at(0, longest), at(1, longest), false},
		{window(0, longest), at(0, 0), at(0, longest), true},
		{window(longest, longest), at(0, 0), at(0, 0), true},
		{window(longest, longest), at(0, 0), at(0, 1), false},
		{window(longest, longest), at(1, longest), at(0, longest), false},
		{window(0, longest), site(0, longest, longest, 0), site(0, longest, longest, 0), true},
		{window(0, longest), site(0, longest, longest, longest), at(0, 0), false},
		{window(0, 0), at(0, 0), site(0, 0, 0, 0), true},
		{window(0, 0), at(0, 0), site(0, 1, 1, 0), false},
		{window(0, 0), at(0, 1), at(0, 0), false},
	} {
		w := world{m: m, drivers: []api.Driver{{Id: highest, Room: biggest, Window: c.w}}}
		w.orders = []api.Order{{Id: highest, Size: biggest, Pick: c.pick, Drop: c.drop}}
		w.plan = api.Plan{drive(highest, p(highest), q(highest))}
		if c.good {
			checkMade(t, w, walked(w))
		} else {
			checkNotMade(t, w, 0, api.ErrLate)
		}
	}
}

// P10.3 and R1: numbers so great or small that sums with them would be others, in one Visit or in all of them
func TestGreatestNumbers(t *testing.T) {
	far := []int{least, least + 1, least + longest, greatest - longest, greatest - 1, greatest, 1 << 62, -1 << 62}
	w, right := town(t)
	for k := range right {
		for i := range right[k] {
			for _, n := range far {
				for _, load := range []int{right[k][i].Load, n} {
					why := api.ErrLate
					if load == n {
						why = api.ErrLoad
					}
					all := func(v *api.Visit) { v.Arrive, v.Begin, v.Leave, v.Load = n, n, n, load }
					checkFault(t, w, turned(w, right, k, i, all), k, why)
					c := copied(right)
					all(&c[k][i])
					checkFault(t, w, c, k, why)
				}
			}
		}
	}
	for _, n := range far {
		c := copied(right)
		for k := range c {
			for i := range c[k] {
				c[k][i] = visit(c[k][i].Stop, n, n, n, n)
			}
		}
		checkFault(t, w, c, 0, api.ErrLoad)
	}
}
