package audit_test

import (
	"slices"
	"testing"

	"dray/api"
)

// bad is the town with another plan, in which much is wrong with each route that has stops.
func bad(t *testing.T) world {
	t.Helper()
	w := town(t)
	w.plan = api.Plan{
		drive(3, q(40), p(50), p(99), p(40), q(50)),
		drive(7, p(20), p(10), p(30), q(20)),
		drive(8, q(70)),
		drive(9),
		drive(12, q(10), q(30)),
	}
	return w
}

// ofBad returns what is wrong with each route of bad, worked out by hand.
func ofBad() [][]api.Trouble {
	return [][]api.Trouble{
		// Driver 3 leaves at 9 and at 16, passes over 99, and is at place 0 at 19, with a load of 6, until 22 and until 33.
		{
			trouble(3, 40, api.ErrFirst), trouble(3, 99, api.ErrNone), trouble(3, 40, api.ErrLoad), trouble(3, 40, api.ErrLate),
			trouble(3, 50, api.ErrLate), trouble(3, 40, api.ErrLack),
		},
		// Driver 7 leaves at 5, 18 and 25, where it should have begun up to 20; it is full then, and leaves at last at 44.
		{trouble(7, 30, api.ErrLate), trouble(7, 10, api.ErrLack), trouble(7, 30, api.ErrLack)},
		{trouble(8, 0, api.ErrNone)},
		nil,
		{trouble(12, 10, api.ErrFirst), trouble(12, 30, api.ErrFirst)},
	}
}

// P11.1: Troubles of all kinds on several routes
func TestBad(t *testing.T) {
	w := bad(t)
	check(t, w, append(slices.Concat(ofBad()...), trouble(0, 60, api.ErrMiss))...)
}

// P11.1 and P11.3: any of these routes without the others, and with drivers who are not there: what is told of the rest
// stays.
func TestBadInParts(t *testing.T) {
	for routes := range 1 << 5 {
		for known := range 1 << 5 {
			w := bad(t)
			var want []api.Trouble
			var part api.Plan
			for k, r := range w.plan {
				if routes>>k&1 == 0 {
					continue
				}
				part = append(part, r)
				if known>>k&1 == 0 {
					w.drivers = slices.DeleteFunc(w.drivers, func(d api.Driver) bool { return d.Id == r.Driver })
					want = append(want, trouble(r.Driver, 0, api.ErrNone))
				} else {
					want = append(want, ofBad()[k]...)
				}
			}
			w.plan = part
			for _, o := range w.orders {
				if !standsThere(w, o.Id) {
					want = append(want, trouble(0, o.Id, api.ErrMiss))
				}
			}
			check(t, w, want...)
		}
	}
}

// rows is a world of n routes, all alike but for their numbers: of each driver 10, 20, .. two orders, one behind the
// other, the last of which is delivered in the last moment. An order of size 2 fills a driver.
func rows(t *testing.T, n int) world {
	t.Helper()
	w := world{m: made(t, 2, 0, 3, 4, 0)}
	for k := range n {
		id, a, b := 10*(k+1), 2*k+1, 2*k+2
		w.drivers = append(w.drivers, api.Driver{Id: id, Room: 2, Home: 0, Window: window(5, 25)})
		for i, o := range []int{a, b} {
			w.orders = append(w.orders, api.Order{Id: o, Size: 2 - i, Pick: site(1, 0, 99, 1), Drop: site(0, 0, 99, 2)})
		}
		w.plan = append(w.plan, drive(id, p(a), q(a), p(b), q(b)))
	}
	return w
}

// part is what a spoil may change: a route with its driver and its two orders, whose numbers a and b are.
type part struct {
	stops  *[]api.Stop
	driver *api.Driver
	first  *api.Order
	second *api.Order
	a, b   int
}

// told is a Trouble of a part: of its first order (1), its second one (2), no order (0) or one of another number.
type told struct {
	order int
	why   api.Errno
}

// spoil makes a route of rows wrong; want tells its Troubles and missing what is told at the end.
type spoil struct {
	turn    func(x part)
	want    []told
	missing []int
}

// windowSpoils returns those of times.
func windowSpoils() []spoil {
	late := func(orders ...int) []told {
		var l []told
		for _, o := range orders {
			l = append(l, told{o, api.ErrLate})
		}
		return l
	}
	return []spoil{
		{func(x part) { x.first.Pick.Window = window(8, 8) }, nil, nil},
		{func(x part) { x.first.Pick.Window = window(0, 7) }, late(1), nil},
		{func(x part) { x.first.Drop.Window = window(13, 13) }, nil, nil},
		{func(x part) { x.first.Drop.Window = window(12, 12) }, late(1), nil},
		{func(x part) { x.second.Pick.Window = window(18, 18) }, nil, nil},
		{func(x part) { x.second.Pick.Window = window(17, 17) }, late(2), nil},
		{func(x part) { x.second.Drop.Window = window(23, 23) }, nil, nil},
		{func(x part) { x.second.Drop.Window = window(22, 22) }, late(2), nil},
		// Begun one later, it ends one behind the end of the driver's Window.
		{func(x part) { x.second.Drop.Window = window(24, 24) }, late(2), nil},
		{func(x part) { x.first.Pick.Window = window(9, 9) }, late(2), nil},
		{func(x part) { x.driver.From++ }, late(2), nil},
		{func(x part) { x.driver.Home = 1 }, nil, nil},
		{func(x part) { x.driver.To = 24 }, late(2), nil},
		{func(x part) { x.driver.To = 19 }, late(2), nil},
		{func(x part) { x.driver.To = 18 }, late(2, 2), nil},
		{func(x part) { x.driver.To = 14 }, late(1, 2, 2), nil},
		{func(x part) { x.driver.To = 8 }, late(1, 1, 2, 2), nil},
		// Late for two reasons, it is told once.
		{func(x part) { x.driver.To = 8; x.first.Drop.Window = window(0, 1) }, late(1, 1, 2, 2), nil},
	}
}

// stopSpoils returns those of stops and loads.
func stopSpoils() []spoil {
	return []spoil{
		{func(x part) {}, nil, nil},
		{func(x part) { *x.stops = nil }, nil, []int{1, 2}},
		{func(x part) { *x.stops = (*x.stops)[2:] }, nil, []int{1}},
		{func(x part) { *x.stops = (*x.stops)[:2] }, nil, []int{2}},
		{func(x part) { *x.stops = (*x.stops)[:3] }, []told{{2, api.ErrLack}}, nil},
		{func(x part) { *x.stops = (*x.stops)[:1] }, []told{{1, api.ErrLack}}, []int{2}},
		{func(x part) { *x.stops = (*x.stops)[1:2] }, []told{{1, api.ErrFirst}}, []int{2}},
		{func(x part) { *x.stops = []api.Stop{q(x.b), q(x.a)} }, []told{{2, api.ErrFirst}, {1, api.ErrFirst}}, nil},
		{
			func(x part) { *x.stops = []api.Stop{p(x.b), p(x.a)} },
			[]told{{1, api.ErrLoad}, {2, api.ErrLack}, {1, api.ErrLack}}, nil,
		},
		// Behind a delivery that takes nothing away, the driver is full as it was.
		{
			func(x part) { *x.stops = []api.Stop{q(x.a), p(x.a), p(x.b), q(x.b)} },
			[]told{{1, api.ErrFirst}, {2, api.ErrLoad}, {1, api.ErrLack}}, nil,
		},
		{
			func(x part) { *x.stops = []api.Stop{p(x.a), q(x.a), q(x.b), p(x.b)} },
			[]told{{2, api.ErrFirst}, {2, api.ErrLack}}, nil,
		},
		{func(x part) { *x.stops = []api.Stop{p(x.a), p(x.b), q(x.a), q(x.b)} }, []told{{2, api.ErrLoad}}, nil},
		{func(x part) { *x.stops = []api.Stop{p(x.b), p(x.a), q(x.b), q(x.a)} }, []told{{1, api.ErrLoad}}, nil},
		{func(x part) { x.first.Size = 3 }, []told{{1, api.ErrLoad}}, nil},
		{func(x part) { x.driver.Room = 1 }, []told{{1, api.ErrLoad}}, nil},
		{func(x part) { x.first.Size, x.second.Size = biggest, biggest }, []told{{1, api.ErrLoad}, {2, api.ErrLoad}}, nil},
	}
}

// otherSpoils returns those of numbers that are not there, and of several Troubles at one stop.
func otherSpoils() []spoil {
	return []spoil{
		{func(x part) { x.driver.Id += 1000 }, []told{{0, api.ErrNone}}, nil},
		{func(x part) { x.driver.Id += 1000; *x.stops = nil }, []told{{0, api.ErrNone}}, []int{1, 2}},
		{func(x part) { x.driver.Id += 1000; *x.stops = []api.Stop{q(x.b)} }, []told{{0, api.ErrNone}}, []int{1}},
		{func(x part) { x.first.Id += 1000 }, []told{{1, api.ErrNone}, {1, api.ErrNone}}, []int{1}},
		{func(x part) { x.second.Id += 1000 }, []told{{2, api.ErrNone}, {2, api.ErrNone}}, []int{2}},
		{
			func(x part) { x.second.Id += 1000; *x.stops = []api.Stop{q(x.b), p(x.b), p(x.a)} },
			[]told{{2, api.ErrNone}, {2, api.ErrNone}, {1, api.ErrLack}}, []int{2},
		},
		{func(x part) { *x.stops = slices.Insert(*x.stops, 2, q(5000+x.b)) }, []told{{5000, api.ErrNone}}, nil},
		{
			func(x part) { x.first.Size = 3; x.first.Pick.Window = window(0, 7) },
			[]told{{1, api.ErrLoad}, {1, api.ErrLate}}, nil,
		},
		{
			func(x part) { x.driver.To = 6; *x.stops = []api.Stop{q(x.a), p(x.a)} },
			[]told{{1, api.ErrFirst}, {1, api.ErrLate}, {1, api.ErrLate}, {1, api.ErrLack}}, []int{2},
		},
		{
			func(x part) { x.driver.Room, x.driver.To = 1, 6; *x.stops = []api.Stop{p(x.a), q(x.b), p(x.b)} },
			[]told{
				{1, api.ErrLoad}, {1, api.ErrLate}, {2, api.ErrFirst}, {2, api.ErrLate}, {2, api.ErrLoad}, {2, api.ErrLate},
				{1, api.ErrLack}, {2, api.ErrLack},
			}, nil,
		},
	}
}

// spoiled returns a world of rows whose route k is spoiled by l[k], with what is told of it.
func spoiled(t *testing.T, l ...spoil) (world, []api.Trouble) {
	t.Helper()
	w := rows(t, len(l))
	var want, missing []api.Trouble
	for k, s := range l {
		id := w.drivers[k].Id
		numbers := map[int]int{1: 2*k + 1, 2: 2*k + 2, 5000: 5000 + 2*k + 2}
		s.turn(part{&w.plan[k].Stops, &w.drivers[k], &w.orders[2*k], &w.orders[2*k+1], numbers[1], numbers[2]})
		for _, x := range s.want {
			want = append(want, trouble(id, numbers[x.order], x.why))
		}
		for _, n := range s.missing {
			missing = append(missing, trouble(0, w.orders[2*k+n-1].Id, api.ErrMiss))
		}
	}
	return w, append(want, missing...)
}

func spoils() []spoil { return slices.Concat(windowSpoils(), stopSpoils(), otherSpoils()) }

// Nothing is wrong with rows.
func TestRows(t *testing.T) {
	for n := range fleet + 1 {
		check(t, rows(t, n))
	}
}

// P11.1: each spoil alone, on each route of each number of them
func TestEachSpoil(t *testing.T) {
	for n := 1; n <= fleet; n++ {
		for k := range n {
			for _, s := range spoils() {
				l := make([]spoil, n)
				for i := range l {
					l[i] = stopSpoils()[0]
				}
				l[k] = s
				w, want := spoiled(t, l...)
				check(t, w, want...)
			}
		}
	}
}

// P11.1 and P11.3: spoils on three routes, in all ways: what is told of each is told behind what is told of those ahead,
// and the orders that are missing stand at the end.
func TestSpoilsOnAllRoutes(t *testing.T) {
	for _, first := range spoils() {
		for _, second := range spoils() {
			w, want := spoiled(t, first, second)
			check(t, w, want...)
			w, want = spoiled(t, second, first, first)
			check(t, w, want...)
		}
	}
	l := otherSpoils()
	for _, first := range l {
		for _, second := range l {
			for _, third := range l {
				w, want := spoiled(t, first, second, third)
				check(t, w, want...)
			}
		}
	}
}
