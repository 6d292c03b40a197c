package route_test

import (
	"math/rand"
	"slices"
	"testing"

	"dray/api"
	"dray/geo"
)

// beginnings returns, for each stop, all times at which it begins in some schedule of the stops up to it: the driver may
// leave later than it could, anywhere. It is for narrow Windows, and for stops of the orders alone.
func beginnings(w world, stops []api.Stop) [][]int {
	var all [][]int
	place, service, before := w.d.Home, 0, []int{w.d.From}
	for _, s := range stops {
		at, _ := w.site(s)
		way, _ := w.m.Time(place, at.Place)
		var now []int
		for begin := at.From; begin <= at.To; begin++ {
			reached := slices.ContainsFunc(before, func(b int) bool { return b+service+way <= begin })
			if reached && begin+at.Service <= w.d.To {
				now = append(now, begin)
			}
		}
		all = append(all, now)
		place, service, before = at.Place, at.Service, now
	}
	return all
}

// position returns where a stop stands among others, -1 if it does not.
func position(stops []api.Stop, s api.Stop) int {
	for i := range stops {
		if stops[i].Order == s.Order && stops[i].Drop == s.Drop {
			return i
		}
	}
	return -1
}

// loaded returns what the stops leave loaded, each delivery behind its pickup.
func loaded(w world, stops []api.Stop) int {
	total := 0
	for _, s := range stops {
		_, more := w.site(s)
		total += more
	}
	return total
}

// wantFault is P7.2, each stop looked at for itself. It is for a world that is right.
func wantFault(w world, stops []api.Stop) api.Fault {
	for i, s := range stops {
		why := api.OK
		switch _, known := w.order(s.Order); {
		case !known:
			why = api.ErrNone
		case position(stops[:i], s) >= 0:
			why = api.ErrTwice
		case s.Drop && position(stops[:i], p(s.Order)) < 0:
			why = api.ErrFirst
		case loaded(w, stops[:i+1]) > w.d.Room:
			why = api.ErrLoad
		case len(beginnings(w, stops[:i+1])[i]) == 0:
			why = api.ErrLate
		}
		if why != api.OK {
			return api.Fault{At: i, Why: why}
		}
	}
	if loaded(w, stops) != 0 {
		return api.Fault{At: len(stops), Why: api.ErrLack}
	}
	return api.Fault{}
}

// mixer makes worlds and stops, the same ones in every run.
type mixer struct{ *rand.Rand }

func (x mixer) window(bound, wide int) api.Window {
	from := x.Intn(bound)
	return window(from, from+x.Intn(wide))
}

func (x mixer) roads(t *testing.T, n int) *geo.Map {
	t.Helper()
	times := make([]int, n*n)
	for i := range times {
		if i/n != i%n {
			times[i] = x.Intn(5)
		}
	}
	return made(t, n, times...)
}

func (x mixer) site(n int) api.Site {
	return api.Site{Place: x.Intn(n), Window: x.window(20, 40), Service: x.Intn(4)}
}

// world returns one that is right, with up to five orders of strewn Ids.
func (x mixer) world(t *testing.T) world {
	t.Helper()
	n := 1 + x.Intn(4)
	w := world{m: x.roads(t, n), d: api.Driver{Id: 1 + x.Intn(highest), Room: 4 + x.Intn(8), Home: x.Intn(n)}}
	w.d.Window = window(x.Intn(10), 20+x.Intn(40))
	for _, id := range x.Perm(20)[:x.Intn(6)] {
		w.orders = append(w.orders, api.Order{Id: id + 1, Size: 1 + x.Intn(5), Pick: x.site(n), Drop: x.site(n)})
	}
	return w
}

// stops returns pickups and deliveries of some of the orders, each delivery behind its pickup, now and then with a few
// changes.
func (x mixer) stops(w world) []api.Stop {
	var l []api.Stop
	for _, o := range w.orders {
		if x.Intn(4) == 0 {
			continue
		}
		i := x.Intn(len(l) + 1)
		l = slices.Insert(l, i, p(o.Id))
		l = slices.Insert(l, i+1+x.Intn(len(l)-i), q(o.Id))
	}
	for x.Intn(2) == 0 {
		l = x.changed(l)
	}
	return l
}

// changed returns the stops with one more, one less, two swapped, or one of them a second time.
func (x mixer) changed(l []api.Stop) []api.Stop {
	l = slices.Clone(l)
	i := x.Intn(len(l) + 1)
	if len(l) == 0 || x.Intn(4) == 0 {
		return slices.Insert(l, i, api.Stop{Order: x.Intn(22), Drop: x.Intn(2) == 0})
	}
	j := x.Intn(len(l))
	switch x.Intn(3) {
	case 0:
		return slices.Delete(l, j, j+1)
	case 1:
		return slices.Insert(l, i, l[j])
	}
	k := x.Intn(len(l))
	l[j], l[k] = l[k], l[j]
	return l
}

func forMixed(t *testing.T, n int, f func(x mixer, w world, stops []api.Stop)) {
	t.Helper()
	x := mixer{rand.New(rand.NewSource(7))}
	for range n {
		w := x.world(t)
		f(x, w, x.stops(w))
	}
}

// P7.1 to P7.3, each stop looked at for itself (drive holds the visits and the cost against the words of P7.1 and P7.3)
func TestMixed(t *testing.T) {
	counts := map[api.Errno]int{}
	forMixed(t, 40000, func(x mixer, w world, stops []api.Stop) {
		want := wantFault(w, stops)
		checkFault(t, w, want.At, want.Why, stops...)
		if len(stops) > 0 {
			counts[want.Why]++
		}
	})
	for _, why := range []api.Errno{api.OK, api.ErrNone, api.ErrTwice, api.ErrFirst, api.ErrLoad, api.ErrLate, api.ErrLack} {
		if counts[why] < 500 {
			t.Errorf("%d of %v: too few", why, counts)
		}
	}
}

// P7.4: no schedule begins a stop earlier, and the earliest beginning is that of some schedule.
func TestNoneBeginsEarlier(t *testing.T) {
	driven := 0
	forMixed(t, 20000, func(x mixer, w world, stops []api.Stop) {
		visits, f := drive(t, w, stops...)
		if !f.Good() {
			return
		}
		driven += len(visits)
		for i, l := range beginnings(w, stops) {
			if len(l) == 0 || visits[i].Begin != slices.Min(l) {
				t.Fatalf("visit %d of %v in %+v begins at %d, not first of %v", i, stops, w, visits[i].Begin, l)
			}
		}
	})
	if driven < 5000 {
		t.Errorf("%d stops were driven: too few", driven)
	}
}

// P7.4: a driver whose Window begins later arrives nowhere earlier, and gets no further.
func TestLaterDrivers(t *testing.T) {
	moved := 0
	forMixed(t, 10000, func(x mixer, w world, stops []api.Stop) {
		before, was := drive(t, w, stops...)
		for w.d.From < w.d.To {
			w.d.From++
			visits, f := drive(t, w, stops...)
			if f.Good() && !was.Good() || !f.Good() && !was.Good() && f.At > was.At || !f.Good() && was.Good() && f.Why != api.ErrLate {
				t.Fatalf("%v, and %v for one who leaves a unit of time earlier: %v in %+v", f, was, stops, w)
			}
			for i, v := range visits {
				if v.Arrive < before[i].Arrive || v.Begin < before[i].Begin || v.Leave < before[i].Leave {
					t.Fatalf("visit %d of %v in %+v is %v, and %v for one who leaves a unit of time earlier", i, stops, w, v, before[i])
				}
				if v.Arrive > before[i].Arrive {
					moved++
				}
			}
			before, was = visits, f
		}
	})
	if moved < 5000 {
		t.Errorf("%d arrivals were later: too few", moved)
	}
}

// P7.4: neither the order in which the orders are listed nor orders without a stop have an influence.
func TestListOfOrders(t *testing.T) {
	forMixed(t, 5000, func(x mixer, w world, stops []api.Stop) {
		visits, f := drive(t, w, stops...)
		other := w
		other.orders = slices.Clone(w.orders)
		for n := x.Intn(most - len(w.orders) + 1); n > 0; n-- {
			// Larger than any Room and never in time, were they driven.
			far := api.Order{Id: 1000 + n, Size: biggest, Pick: site(0, 0, 0, longest), Drop: site(0, 0, 0, longest)}
			other.orders = append(other.orders, far)
		}
		x.Shuffle(len(other.orders), func(i, j int) {
			other.orders[i], other.orders[j] = other.orders[j], other.orders[i]
		})
		if v, g := drive(t, other, stops...); g != f || !slices.Equal(v, visits) {
			t.Fatalf("%v, %v, not %v, %v: %v in %+v", v, g, visits, f, stops, other)
		}
		// Those without a stop may as well be missing.
		other.orders = slices.DeleteFunc(other.orders, func(o api.Order) bool {
			return position(stops, p(o.Id)) < 0 && position(stops, q(o.Id)) < 0
		})
		if v, g := drive(t, other, stops...); g != f || !slices.Equal(v, visits) {
			t.Fatalf("%v, %v, not %v, %v: %v in %+v", v, g, visits, f, stops, other)
		}
	})
}

// P7.4: the stops ahead of the one with a Fault are possible, apart from deliveries that are missing.
func TestStopsAheadOfFaults(t *testing.T) {
	forMixed(t, 10000, func(x mixer, w world, stops []api.Stop) {
		visits, f := drive(t, w, stops...)
		end := len(stops)
		if !f.Good() {
			end = f.At
		}
		for i := range end + 1 {
			v, g := drive(t, w, stops[:i]...)
			if !g.Good() && g != (api.Fault{At: i, Why: api.ErrLack}) || g.Good() != (loaded(w, stops[:i]) == 0) {
				t.Fatalf("%v for the first %d of %v in %+v, whose Fault is %v", g, i, stops, w, f)
			}
			// What comes behind has no influence on the visits ahead.
			if g.Good() && f.Good() && !slices.Equal(v, visits[:i]) {
				t.Fatalf("%v for the first %d of %v in %+v, not %v", v, i, stops, w, visits[:i])
			}
		}
	})
}
