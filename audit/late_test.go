package audit_test

import (
	"slices"
	"testing"

	"dray/api"
)

// forStops hands on each stop of the loose town, in a world of its own, with its order and when the driver comes to it and
// leaves it; as no Window there begins later than that, it begins when it comes.
func forStops(t *testing.T, f func(w world, k, i, arrive, leave int)) {
	t.Helper()
	for k, r := range loose(t).plan {
		for i := range r.Stops {
			w := loose(t)
			arrive, leave := servedThere(w, *w.driver(r.Driver), r.Stops[:i+1])
			f(w, k, i, arrive, leave)
		}
	}
}

// late returns what is told of stops of one route that are late, and of 70.
func late(driver int, stops ...api.Stop) []api.Trouble {
	var l []api.Trouble
	for _, s := range stops {
		l = append(l, trouble(driver, s.Order, api.ErrLate))
	}
	return append(l, trouble(0, 70, api.ErrMiss))
}

// P11.1: arrivals ahead of the Site's Window, at its beginning, in it, at its end and behind it
func TestArrivals(t *testing.T) {
	forStops(t, func(w world, k, i, arrive, leave int) {
		r := w.plan[k]
		here, _ := w.site(r.Stops[i])
		for from := max(arrive-3, 0); from <= arrive+3; from++ {
			for to := from; to <= arrive+4; to++ {
				here.Window = window(from, to)
				if arrive > to {
					check(t, w, late(r.Driver, r.Stops[i])...)
				} else {
					check(t, w, late(r.Driver)...)
				}
			}
		}
	})
}

// P11.1: who waits begins with the Window, no sooner and no later: that is when the next stop's way begins.
func TestWaits(t *testing.T) {
	forStops(t, func(w world, k, i, arrive, leave int) {
		r := w.plan[k]
		if i+1 == len(r.Stops) {
			return
		}
		here, _ := w.site(r.Stops[i])
		next, _ := w.site(r.Stops[i+1])
		comes, _ := servedThere(w, *w.driver(r.Driver), r.Stops[:i+2])
		for wait := -2; wait <= 4; wait++ {
			here.Window = window(max(arrive+wait, 0), longest)
			later := max(wait, 0)
			next.Window = window(0, comes+later)
			check(t, w, late(r.Driver)...)
			next.Window = window(0, comes+later-1)
			check(t, w, late(r.Driver, r.Stops[i+1])...)
		}
	})
}

// P11.1: a driver that leaves at the end of its Window, behind it and ahead of it: each service that ends behind it is late,
// and with the rest the driver goes on.
func TestDriverEnds(t *testing.T) {
	forStops(t, func(w world, k, i, arrive, leave int) {
		r := w.plan[k]
		d := w.driver(r.Driver)
		for to := max(leave-2, d.From); to <= leave+2; to++ {
			d.To = to
			var behind []api.Stop
			for j, s := range r.Stops {
				if _, leaves := servedThere(w, *d, r.Stops[:j+1]); leaves > to {
					behind = append(behind, s)
				}
			}
			check(t, w, late(r.Driver, behind...)...)
		}
		d.To = leave
		check(t, w, late(r.Driver, r.Stops[i+1:]...)...)
		here, _ := w.site(r.Stops[i])
		here.Service++
		check(t, w, late(r.Driver, r.Stops[i:]...)...)
	})
}

// P11.1: it is the driver's own Window that counts, and the end of the service, not its beginning.
func TestOneDriverEnds(t *testing.T) {
	for k, r := range loose(t).plan {
		w := loose(t)
		for i := range w.drivers {
			w.drivers[i].To = 200
		}
		check(t, w, late(r.Driver)...)
		d := w.driver(r.Driver)
		d.To = d.From
		// Nobody leaves anything as soon as that.
		check(t, w, late(r.Driver, r.Stops...)...)
		if n := len(r.Stops); n > 0 {
			begin, leave := servedThere(w, *d, w.plan[k].Stops)
			for to := begin; to < leave; to++ {
				d.To = to
				check(t, w, late(r.Driver, r.Stops[n-1])...)
			}
		}
	}
}

// exact returns the loose town where each Window of route k's stops is the one moment at which the stop begins.
func exact(t *testing.T, k int) world {
	t.Helper()
	w, easy := loose(t), loose(t)
	for i, s := range w.plan[k].Stops {
		here, _ := w.site(s)
		begin, _ := servedThere(easy, *easy.driver(w.plan[k].Driver), easy.plan[k].Stops[:i+1])
		here.Window = window(begin, begin)
	}
	return w
}

// P11.1: a driver that is late goes on late, through all further stops: each begins as much later as the driver is, whether
// that is told of the stops ahead of it or not.
func TestGoesOnLate(t *testing.T) {
	for k, r := range loose(t).plan {
		for behind := range 3 {
			for left := range 1 << len(r.Stops) {
				w := exact(t, k)
				w.driver(r.Driver).From += behind
				var stops []api.Stop
				for i, s := range r.Stops {
					here, _ := w.site(s)
					if left>>i&1 == 0 {
						here.Window = window(here.From+behind, here.To+behind)
					} else if behind > 0 {
						stops = append(stops, s)
					}
				}
				check(t, w, late(r.Driver, stops...)...)
			}
		}
	}
}

// P11.1: lateness from any stop on: those ahead of it are in time, and all behind it are late, until one whose Window lets
// the driver wait for so long.
func TestLateUntilItWaits(t *testing.T) {
	for k, r := range loose(t).plan {
		for i, s := range r.Stops {
			for j := i + 1; j <= len(r.Stops); j++ {
				w := exact(t, k)
				here, _ := w.site(s)
				here.Service += 3
				if j < len(r.Stops) {
					// What is behind comes later by as much, and so is in time.
					for _, s := range r.Stops[j:] {
						further, _ := w.site(s)
						further.Window = window(further.From+5, further.To+5)
					}
				}
				check(t, w, late(r.Driver, r.Stops[i+1:j]...)...)
			}
		}
	}
}

// P11.1: a stop that is late for both reasons is told once.
func TestLateTwice(t *testing.T) {
	forStops(t, func(w world, k, i, arrive, leave int) {
		r := w.plan[k]
		d := w.driver(r.Driver)
		here, _ := w.site(r.Stops[i])
		here.Window = window(0, arrive-1)
		check(t, w, late(r.Driver, r.Stops[i])...)
		d.To = leave - 1
		check(t, w, late(r.Driver, r.Stops[i:]...)...)
		here.Window = window(0, arrive)
		check(t, w, late(r.Driver, r.Stops[i:]...)...)
	})
}

// P11.1: what is late for the driver is so for each stop by itself: one behind that takes as long can't be in time again.
func TestStaysBehindItsEnd(t *testing.T) {
	w := yard(t, 1, 3)
	w.drivers[0].Window = window(10, 20)
	w.plan = api.Plan{drive(10, p(1), q(1), p(2), q(2), p(3), q(3))}
	check(t, w)
	w.orders[1].Pick.From = 20
	check(t, w)
	w.orders[1].Pick.From = 21
	l := trouble(10, 2, api.ErrLate)
	check(t, w, l, l, trouble(10, 3, api.ErrLate), trouble(10, 3, api.ErrLate))
	w.orders[1].Pick.From, w.orders[1].Drop.Service = 0, 11
	check(t, w, l, trouble(10, 3, api.ErrLate), trouble(10, 3, api.ErrLate))
}

// P11.1: at the greatest times, where sums are beyond MaxTime
func TestLongest(t *testing.T) {
	m := made(t, 2, 0, longest, longest, 0)
	at := func(place, service int) api.Site { return site(place, 0, longest, service) }
	for _, c := range []struct {
		w          api.Window
		pick, drop api.Site
		late       int
	}{
		{window(0, longest), at(1, 0), at(1, 0), 0},
		{window(0, longest), at(0, 0), at(1, 0), 0},
		{window(0, longest), at(1, 0), at(1, 1), 1},
		{window(0, longest), at(1, 0), at(0, 0), 1},
		{window(0, longest), at(1, 1), at(1, 0), 2},
		{window(1, longest), at(1, 0), at(1, 0), 2},
		{window(0, longest-1), at(1, 0), at(1, 0), 2},
		{window(0, longest), at(0, longest), at(0, 0), 0},
		{window(0, longest), at(0, longest), at(1, longest), 1},
		{window(0, longest), at(0, 0), at(0, longest), 0},
		{window(longest, longest), at(0, 0), at(0, 0), 0},
		{window(longest, longest), at(0, 0), at(0, 1), 1},
		{window(longest, longest), at(1, longest), at(0, longest), 2},
		{window(0, longest), site(0, longest, longest, 0), site(0, longest, longest, 0), 0},
		{window(0, longest), site(0, longest, longest, longest), at(0, 0), 2},
		{window(0, 0), at(0, 0), site(0, 0, 0, 0), 0},
		{window(0, 0), at(0, 0), site(0, 1, 1, 0), 1},
		{window(0, 0), at(0, 1), at(0, 0), 2},
	} {
		w := world{m: m, drivers: []api.Driver{{Id: highest, Room: biggest, Window: c.w}}}
		w.orders = []api.Order{{Id: highest, Size: biggest, Pick: c.pick, Drop: c.drop}}
		w.plan = api.Plan{drive(highest, p(highest), q(highest))}
		check(t, w, slices.Repeat([]api.Trouble{trouble(highest, highest, api.ErrLate)}, c.late)...)
	}
}

// P11.1: MaxStops stops, with the longest ways and services between them all
func TestLongestRoute(t *testing.T) {
	w := yard(t, 1, most)
	w.m = made(t, 2, 0, longest, longest, 0)
	var want []api.Trouble
	for i := range w.orders {
		w.orders[i].Pick, w.orders[i].Drop = site(0, 0, longest, longest), site(1, 0, longest, longest)
	}
	w.plan[0].Stops = nil
	w.drivers[0].Window = window(0, longest)
	for _, o := range w.orders {
		w.plan[0].Stops = append(w.plan[0].Stops, p(o.Id), q(o.Id))
		want = append(want, trouble(10, o.Id, api.ErrLate), trouble(10, o.Id, api.ErrLate))
	}
	check(t, w, want[1:]...)
	w.drivers[0].From = 1
	check(t, w, want...)
}
