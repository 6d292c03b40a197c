package slack_test

import (
	"math/rand"
	"slices"
	"testing"

	"dray/api"
	"dray/geo"
	"dray/route"
)

// mixer makes worlds and stops, the same ones in every run.
type mixer struct{ *rand.Rand }

func (x mixer) roads(t *testing.T, n int) *geo.Map {
	t.Helper()
	times := make([]int, n*n)
	for i := range times {
		if i/n != i%n {
			times[i] = x.Intn(6)
		}
	}
	return made(t, n, times...)
}

func (x mixer) order(id, n int) api.Order {
	o := api.Order{Id: id, Size: 1 + x.Intn(3)}
	for _, s := range []*api.Site{&o.Pick, &o.Drop} {
		from := x.Intn(20)
		*s = site(x.Intn(n), from, from+x.Intn(45), x.Intn(4))
	}
	return o
}

// world returns one that is right, with up to four orders of strewn Ids from 1 to 20.
func (x mixer) world(t *testing.T) world {
	t.Helper()
	n := 1 + x.Intn(4)
	w := world{m: x.roads(t, n), d: api.Driver{Id: 1 + x.Intn(highest), Room: 3 + x.Intn(5), Home: x.Intn(n)}}
	w.d.Window = window(x.Intn(8), 25+x.Intn(40))
	for _, id := range x.Perm(20)[:x.Intn(5)] {
		w.orders = append(w.orders, x.order(id+1, n))
	}
	return w
}

// stops returns stops of some of the orders, each delivery behind its pickup.
func (x mixer) stops(w world) []api.Stop {
	var l []api.Stop
	for _, o := range w.orders {
		if x.Intn(6) > 0 {
			i := x.Intn(len(l) + 1)
			l = put(l, o.Id, i, i+x.Intn(len(l)-i+1))
		}
	}
	return l
}

// forDriven hands on mixed routes in which Drive finds no Fault.
func forDriven(t *testing.T, n int, f func(x mixer, w world, stops []api.Stop, visits []api.Visit)) {
	t.Helper()
	x := mixer{rand.New(rand.NewSource(8))}
	for n > 0 {
		w := x.world(t)
		stops := x.stops(w)
		if visits, fault := route.Drive(w.m, w.d, w.orders, stops...); fault.Good() {
			f(x, w, stops, visits)
			n--
		}
	}
}

// madeFrom reports whether the stop at i can begin at time and all behind it can still be made. It asks nothing of the
// program but the map's times.
func madeFrom(t *testing.T, w world, stops []api.Stop, i, time int) bool {
	t.Helper()
	for {
		here := w.site(t, stops[i])
		if time > here.To || time+here.Service > w.d.To {
			return false
		}
		if i++; i == len(stops) {
			return true
		}
		next := w.site(t, stops[i])
		way, _ := w.m.Time(here.Place, next.Place)
		time = max(time+here.Service+way, next.From)
	}
}

// bounds counts what the latest times of mixed routes are bounded by, and the stops that begin at them already.
type bounds struct{ window, driver, next, tight int }

func (b *bounds) count(w world, here api.Site, begin, latest int) {
	inWindow, inTime := latest < here.To, latest+here.Service < w.d.To
	switch {
	case !inWindow && inTime:
		b.window++
	case inWindow && !inTime:
		b.driver++
	case inWindow && inTime:
		b.next++
	}
	if latest == begin {
		b.tight++
	}
}

// P8.1 and P8.4: from the beginning in Drive's schedule on, all times up to the latest one can be kept, and none behind it.
func TestMixedLatest(t *testing.T) {
	var b bounds
	forDriven(t, 8000, func(x mixer, w world, stops []api.Stop, visits []api.Visit) {
		l, ok := latest(t, w, stops...)
		if !ok || len(l) != len(stops) {
			t.Fatalf("Latest(%+v, %v) = %v, %v", w, stops, l, ok)
		}
		for i := range l {
			begin := visits[i].Begin
			for time := begin; time <= w.d.To+1; time++ {
				if madeFrom(t, w, stops, i, time) != (time <= l[i]) {
					t.Fatalf("the latest time of stop %d of %v in %+v is %d, and %d says otherwise", i, stops, w, l[i], time)
				}
			}
			for time := begin; time <= l[i]; time++ {
				checkMade(t, w, stops, i, time)
			}
			b.count(w, *w.site(t, stops[i]), begin, l[i])
		}
	})
	if min(b.window, b.driver, b.next, b.tight) < 500 {
		t.Errorf("%+v: too few", b)
	}
}

// P8.1: with one more unit of time all latest times are the same or greater by one.
func TestMixedLonger(t *testing.T) {
	forDriven(t, 4000, func(x mixer, w world, stops []api.Stop, visits []api.Visit) {
		before, _ := latest(t, w, stops...)
		w.d.To++
		after, ok := latest(t, w, stops...)
		for i := range before {
			if !ok || after[i] < before[i] || after[i] > before[i]+1 {
				t.Fatalf("%v, and %v with one unit of time less: %v in %+v", after, before, stops, w)
			}
		}
	})
}

// P8.1: where Drive finds a Fault there are no latest times: with a stop missing, with one twice, and with a driver who
// has less time than the stops take.
func TestMixedRefused(t *testing.T) {
	forDriven(t, 2000, func(x mixer, w world, stops []api.Stop, visits []api.Visit) {
		for i := range stops {
			checkNone(t, w, slices.Delete(slices.Clone(stops), i, i+1)...)
			checkNone(t, w, slices.Insert(slices.Clone(stops), i, stops[len(stops)-1])...)
			w.d.To = visits[len(stops)-1].Leave
			if l, ok := latest(t, w, stops...); !ok {
				t.Fatalf("%v, %v with just the time it takes: %v in %+v", l, ok, stops, w)
			}
			w.d.To--
			checkNone(t, w, stops...)
		}
	})
}

// P8.3: Fits answers as Drive does with the stops put in (fits holds it against that), at all places and beyond the ends.
func TestMixedFits(t *testing.T) {
	in, out := 0, 0
	forDriven(t, 1500, func(x mixer, w world, stops []api.Stop, visits []api.Visit) {
		o := x.order(21, w.m.Places())
		if x.Intn(20) == 0 {
			o.Id = 1 + x.Intn(20)
		}
		for i := -1; i <= len(stops)+1; i++ {
			for j := -1; j <= len(stops)+1; j++ {
				if fits(t, w, stops, o, i, j) {
					in++
				} else if 0 <= i && i <= j && j <= len(stops) {
					out++
				}
			}
		}
	})
	if in < 2000 || out < 2000 {
		t.Errorf("%d places fit and %d don't: too few", in, out)
	}
}

// P8.3 and P8.4: what holds the driver up where it is fits exactly if the next stop begins at its latest time or ahead of it.
func TestMixedHolds(t *testing.T) {
	in, out := 0, 0
	forDriven(t, 3000, func(x mixer, w world, stops []api.Stop, visits []api.Visit) {
		w.d.Room = biggest
		l, _ := latest(t, w, stops...)
		place, left := w.d.Home, w.d.From
		for i, s := range stops {
			next := w.site(t, s)
			way, _ := w.m.Time(place, next.Place)
			for held := range 40 {
				o := api.Order{Id: 21, Size: 1, Pick: site(place, 0, longest, held), Drop: site(place, 0, longest, 0)}
				want := left+held+way <= l[i]
				checkFits(t, w, stops, o, i, i, want)
				if !want {
					out++
					break
				}
				in++
			}
			place, left = next.Place, visits[i].Leave
		}
	})
	if in < 5000 || out < 5000 {
		t.Errorf("%d fit and %d don't: too few", in, out)
	}
}
