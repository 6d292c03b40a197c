package route_test

import (
	"slices"
	"testing"

	"dray/api"
	"dray/route"
)

// timed is a change of the chapter's world, and the times of p(1), q(1) in it: both, or those ahead of the one that is
// late.
type timed struct {
	turn func(w *world)
	want []times
}

func checkTimed(t *testing.T, cases []timed) {
	t.Helper()
	for _, c := range cases {
		w := example(t)
		c.turn(&w)
		if len(c.want) == 2 {
			checkTimes(t, w, c.want, p(1), q(1))
			continue
		}
		checkFault(t, w, len(c.want), api.ErrLate, p(1), q(1))
		checkFault(t, w, len(c.want), api.ErrLate, p(1), q(1), p(9), p(1))
		if len(c.want) == 1 {
			checkFault(t, w, 1, api.ErrLack, p(1))
		}
	}
}

// P7.2: the arrival at Pick (8, as the chapter says) ahead of its Window, at both of its ends, one ahead and one behind
func TestPickWindow(t *testing.T) {
	pick := func(from, to int) func(w *world) {
		return func(w *world) { w.orders[0].Pick.Window = window(from, to) }
	}
	at8 := []times{{8, 8, 9}, {14, 14, 16}}
	checkTimed(t, []timed{
		{pick(0, 9), at8}, {pick(7, 9), at8}, {pick(8, 9), at8}, {pick(8, 8), at8}, {pick(0, 8), at8}, {pick(0, longest), at8},
		{pick(9, 9), []times{{8, 9, 10}, {15, 15, 17}}}, {pick(9, 20), []times{{8, 9, 10}, {15, 15, 17}}},
		{pick(14, 14), []times{{8, 14, 15}, {20, 20, 22}}}, {pick(15, 15), []times{{8, 15, 16}}},
		{pick(0, 7), nil}, {pick(7, 7), nil}, {pick(2, 7), nil}, {pick(0, 0), nil}, {pick(longest, longest), nil},
	})
}

// P7.2: the arrival at Drop (14, as the chapter says) ahead of its Window, at both of its ends, one ahead and one behind
func TestDropWindow(t *testing.T) {
	drop := func(from, to int) func(w *world) {
		return func(w *world) { w.orders[0].Drop.Window = window(from, to) }
	}
	at14, late := []times{{8, 8, 9}, {14, 14, 16}}, []times{{8, 8, 9}}
	checkTimed(t, []timed{
		{drop(0, 20), at14}, {drop(13, 20), at14}, {drop(14, 20), at14}, {drop(14, 14), at14}, {drop(0, 14), at14},
		{drop(0, longest), at14}, {drop(15, 15), []times{{8, 8, 9}, {14, 15, 17}}},
		{drop(15, longest), []times{{8, 8, 9}, {14, 15, 17}}}, {drop(28, 28), []times{{8, 8, 9}, {14, 28, 30}}},
		{drop(29, 29), late}, {drop(29, longest), late}, {drop(0, 13), late}, {drop(13, 13), late}, {drop(0, 0), late},
		{drop(longest, longest), late},
	})
}

// P7.2: a service that ends at the end of the driver's Window, and one later, at Pick and at Drop
func TestDriverEnds(t *testing.T) {
	both, late := []times{{8, 8, 9}, {14, 14, 16}}, []times{{8, 8, 9}}
	until := func(to int) func(w *world) { return func(w *world) { w.d.To = to } }
	checkTimed(t, []timed{
		{until(longest), both}, {until(17), both}, {until(16), both},
		// The end lies within the service at Drop, at its beginning, on the way there, and likewise at Pick.
		{until(15), late}, {until(14), late}, {until(13), late}, {until(9), late},
		{until(8), nil}, {until(7), nil}, {until(1), nil},
		{func(w *world) { w.orders[0].Drop.Service = 16 }, []times{{8, 8, 9}, {14, 14, 30}}},
		{func(w *world) { w.orders[0].Drop.Service = 17 }, late},
		{func(w *world) { w.orders[0].Drop.Service = longest }, late},
		{func(w *world) { w.orders[0].Drop.Service, w.d.To = 0, 14 }, []times{{8, 8, 9}, {14, 14, 14}}},
		{func(w *world) { w.orders[0].Drop.Service, w.d.To = 0, 13 }, late},
		{func(w *world) { w.orders[0].Pick.Service = 22 }, []times{{8, 8, 30}}},
		{func(w *world) { w.orders[0].Pick.Service = 23 }, nil},
		{func(w *world) { w.orders[0].Pick.Service = longest }, nil},
		{func(w *world) { w.orders[0].Pick.Service, w.d.To = 0, 8 }, []times{{8, 8, 8}}},
		{func(w *world) { w.orders[0].Pick.Service, w.d.To = 0, 7 }, nil},
		{func(w *world) { w.orders[0].Pick.Service = 6 }, []times{{8, 8, 14}, {19, 19, 21}}},
		{func(w *world) { w.orders[0].Pick.Service = 7 }, []times{{8, 8, 15}, {20, 20, 22}}},
		{func(w *world) { w.orders[0].Pick.Service = 8 }, []times{{8, 8, 16}}},
	})
}

// P7.1: the beginning of the driver's Window, and its Home
func TestDriverBegins(t *testing.T) {
	checkTimed(t, []timed{
		{func(w *world) { w.d.From = 0 }, []times{{7, 7, 8}, {13, 13, 15}}},
		{func(w *world) { w.d.From = 2 }, []times{{9, 9, 10}, {15, 15, 17}}},
		{func(w *world) { w.d.From = 3 }, nil},
		{func(w *world) { w.d.From = 30 }, nil},
		{func(w *world) { w.d.Home = 0 }, []times{{1, 2, 3}, {8, 8, 10}}},
		{func(w *world) { w.d.Home, w.d.From = 0, 2 }, []times{{2, 2, 3}, {8, 8, 10}}},
		{func(w *world) { w.d.Home, w.d.From = 0, 9 }, []times{{9, 9, 10}, {15, 15, 17}}},
		{func(w *world) { w.d.Home, w.d.From = 0, 10 }, nil},
	})
}

// P7.2: at the greatest times, where sums are beyond MaxTime
func TestLongest(t *testing.T) {
	m := made(t, 2, 0, longest, longest, 0)
	at := func(place, service int) api.Site { return site(place, 0, longest, service) }
	end := times{longest, longest, longest}
	for _, c := range []struct {
		w          api.Window
		pick, drop api.Site
		want       []times
	}{
		{window(0, longest), at(1, 0), at(1, 0), []times{end, end}},
		{window(0, longest), at(0, 0), at(1, 0), []times{{}, end}},
		{window(0, longest), at(1, 0), at(1, 1), []times{end}},
		{window(0, longest), at(1, 0), at(0, 0), []times{end}},
		{window(0, longest), at(1, 1), at(1, 0), nil},
		{window(1, longest), at(1, 0), at(1, 0), nil},
		{window(0, longest-1), at(1, 0), at(1, 0), nil},
		{window(0, longest), at(0, longest), at(0, 0), []times{{0, 0, longest}, end}},
		{window(0, longest), at(0, longest), at(0, longest), []times{{0, 0, longest}}},
		{window(0, longest), at(0, longest), at(1, longest), []times{{0, 0, longest}}},
		{window(0, longest), at(0, 0), at(0, longest), []times{{}, {0, 0, longest}}},
		{window(longest, longest), at(0, 0), at(0, 0), []times{end, end}},
		{window(longest, longest), at(0, 0), at(0, 1), []times{end}},
		{window(longest, longest), at(1, longest), at(0, longest), nil},
		{window(0, longest), site(0, longest, longest, 0), site(0, longest, longest, 0), []times{{0, longest, longest}, end}},
		{window(0, longest), site(0, longest, longest, longest), at(0, 0), nil},
		{window(0, 0), at(0, 0), site(0, 0, 0, 0), []times{{}, {}}},
		{window(0, 0), at(0, 0), site(0, 1, 1, 0), []times{{}}},
		{window(0, 0), at(0, 1), at(0, 0), nil},
	} {
		w := world{m: m, d: api.Driver{Id: highest, Room: biggest, Window: c.w}}
		w.orders = []api.Order{{Id: highest, Size: biggest, Pick: c.pick, Drop: c.drop}}
		stops := []api.Stop{p(highest), q(highest)}
		if len(c.want) == 2 {
			checkTimes(t, w, c.want, stops...)
		} else {
			checkFault(t, w, len(c.want), api.ErrLate, stops...)
		}
	}
}

// P7.2 and P7.3: something is still loaded behind the last stop.
func TestLack(t *testing.T) {
	w := yard(t, 4)
	checkFault(t, w, 1, api.ErrLack, p(1))
	checkFault(t, w, 2, api.ErrLack, p(1), p(2))
	checkFault(t, w, 4, api.ErrLack, p(1), p(2), p(3), p(4))
	checkFault(t, w, 3, api.ErrLack, p(1), p(2), q(1))
	checkFault(t, w, 3, api.ErrLack, p(1), p(2), q(2))
	checkFault(t, w, 3, api.ErrLack, p(1), q(1), p(2))
	checkFault(t, w, 5, api.ErrLack, p(1), p(2), p(3), q(1), q(3))
	checkFault(t, w, 5, api.ErrLack, p(1), p(2), q(1), p(3), p(4))
	checkFault(t, w, 7, api.ErrLack, p(1), p(2), q(1), p(3), p(4), q(4), q(3))
	checkGood(t, w, p(1), p(2), q(1), p(3), p(4), q(4), q(3), q(2))
	// Every other Fault goes ahead, the last stop's too.
	checkFault(t, w, 1, api.ErrNone, p(1), p(5))
	checkFault(t, w, 1, api.ErrTwice, p(1), p(1))
	checkFault(t, w, 1, api.ErrFirst, p(1), q(2))
	w.d.Room = 1
	checkFault(t, w, 1, api.ErrLoad, p(1), p(2))
	w.orders[0].Drop.Window = window(0, 9)
	checkFault(t, w, 1, api.ErrLate, p(1), q(1))
}

// P7.2 and R3: of all errors that apply to one stop the first one listed is answered.
func TestPairsAtOneStop(t *testing.T) {
	full := func(w *world) { w.d.Room = 1 }
	// The driver has 10 to 100; these make the second of two stops of one place too late.
	closing := func(w *world) { w.orders[0].Pick = site(0, 0, 10, 5) }
	passed := func(w *world) { w.orders[0].Pick = site(0, 0, longest, 50) }
	shut := func(w *world) { w.orders[0].Pick.Window, w.orders[0].Drop.Window = window(0, 9), window(0, 9) }
	endless := func(w *world) { w.orders[0].Pick.Service, w.orders[0].Drop.Service = 91, 91 }
	huge := func(w *world) { w.orders[0].Size = 5 }
	spent := func(w *world) { w.orders[1].Pick.Service = 90 }
	for _, c := range []struct {
		turns []func(w *world)
		stops []api.Stop
		at    int
		why   api.Errno
	}{
		// ErrNone: with ErrFirst, with no room, and with no time left for whatever takes some; of two such stops that would
		// be ErrTwice the first one is answered.
		{nil, []api.Stop{q(9)}, 0, api.ErrNone},
		{[]func(w *world){full}, []api.Stop{p(2), p(9)}, 1, api.ErrNone},
		{[]func(w *world){full}, []api.Stop{p(2), q(9)}, 1, api.ErrNone},
		{[]func(w *world){spent}, []api.Stop{p(2), p(9)}, 1, api.ErrNone},
		{[]func(w *world){spent, full}, []api.Stop{p(2), q(9)}, 1, api.ErrNone},
		{nil, []api.Stop{p(9), p(9)}, 0, api.ErrNone},
		{nil, []api.Stop{p(2), q(9), q(9)}, 1, api.ErrNone},
		// ErrTwice: with ErrLoad, with ErrLate by either Window, with both; of two deliveries without a pickup, the second of
		// which would be ErrTwice, the first one is answered.
		{[]func(w *world){full}, []api.Stop{p(1), p(1)}, 1, api.ErrTwice},
		{[]func(w *world){closing}, []api.Stop{p(1), p(1)}, 1, api.ErrTwice},
		{[]func(w *world){passed}, []api.Stop{p(1), p(1)}, 1, api.ErrTwice},
		{[]func(w *world){closing, full}, []api.Stop{p(1), p(1)}, 1, api.ErrTwice},
		{[]func(w *world){passed, full}, []api.Stop{p(1), p(1)}, 1, api.ErrTwice},
		{[]func(w *world){full}, []api.Stop{p(1), q(1), p(2), q(1)}, 3, api.ErrTwice},
		{[]func(w *world){full}, []api.Stop{p(1), q(1), p(2), p(1)}, 3, api.ErrTwice},
		{[]func(w *world){func(w *world) { w.orders[0].Drop = site(0, 0, 10, 5) }}, []api.Stop{p(1), q(1), q(1)}, 2, api.ErrTwice},
		{[]func(w *world){func(w *world) { w.orders[0].Drop.Service = 50 }}, []api.Stop{p(1), q(1), q(1)}, 2, api.ErrTwice},
		{nil, []api.Stop{q(1), q(1)}, 0, api.ErrFirst},
		// ErrFirst: with ErrLate by either Window, and with no room.
		{[]func(w *world){shut}, []api.Stop{q(1)}, 0, api.ErrFirst},
		{[]func(w *world){endless}, []api.Stop{q(1)}, 0, api.ErrFirst},
		{[]func(w *world){huge, shut, endless}, []api.Stop{q(1)}, 0, api.ErrFirst},
		{[]func(w *world){full}, []api.Stop{p(2), q(1)}, 1, api.ErrFirst},
		{[]func(w *world){full, shut}, []api.Stop{p(2), q(1)}, 1, api.ErrFirst},
		// ErrLoad: with ErrLate by either Window, by both, and by what the stops ahead took.
		{[]func(w *world){huge}, []api.Stop{p(1)}, 0, api.ErrLoad},
		{[]func(w *world){huge, shut}, []api.Stop{p(1)}, 0, api.ErrLoad},
		{[]func(w *world){huge, endless}, []api.Stop{p(1)}, 0, api.ErrLoad},
		{[]func(w *world){huge, shut, endless}, []api.Stop{p(1)}, 0, api.ErrLoad},
		{[]func(w *world){full, spent, endless}, []api.Stop{p(2), p(1)}, 1, api.ErrLoad},
		{[]func(w *world){full, shut}, []api.Stop{p(2), p(1)}, 1, api.ErrLoad},
		// ErrLate by both Windows.
		{[]func(w *world){shut, endless}, []api.Stop{p(1)}, 0, api.ErrLate},
		{[]func(w *world){spent, endless}, []api.Stop{p(2), p(1)}, 1, api.ErrLate},
	} {
		w := yard(t, 4)
		for _, turn := range c.turns {
			turn(&w)
		}
		checkFault(t, w, c.at, c.why, c.stops...)
		// What stands behind has no influence.
		for _, s := range []api.Stop{p(1), q(1), p(2), q(2), p(9), q(3)} {
			checkFault(t, w, c.at, c.why, append(slices.Clone(c.stops), s)...)
		}
	}
}

// wrongStops are some stops of which the last one has a Fault.
type wrongStops struct {
	stops []api.Stop
	why   api.Errno
}

// P7.2 and R3: of Faults at two stops the first stop's is answered, whichever is listed first.
func TestPairsAtTwoStops(t *testing.T) {
	w := yard(t, 12)
	// 4 is greater than the Room, and 9 and 10 fill it together.
	w.orders[3].Size, w.orders[8].Size, w.orders[9].Size = 13, 6, 6
	// 5 and 6 are over when the driver begins, 7 and 8 take longer than it has.
	w.orders[4].Pick.To, w.orders[5].Drop.To = 9, 9
	w.orders[6].Pick.Service, w.orders[7].Drop.Service = 91, 91
	// 11 and 12 are just in time.
	w.orders[10].Pick.Window, w.orders[11].Pick.Window, w.orders[11].Drop.Window = window(0, 10), window(10, 10), window(10, 10)
	wrong := []wrongStops{
		{[]api.Stop{p(99)}, api.ErrNone}, {[]api.Stop{q(99)}, api.ErrNone}, {[]api.Stop{p(11), q(99)}, api.ErrNone},
		{[]api.Stop{p(2), p(2)}, api.ErrTwice}, {[]api.Stop{p(2), q(2), q(2)}, api.ErrTwice}, {[]api.Stop{p(2), q(2), p(2)}, api.ErrTwice},
		{[]api.Stop{q(3)}, api.ErrFirst}, {[]api.Stop{p(11), q(3)}, api.ErrFirst},
		{[]api.Stop{p(4)}, api.ErrLoad}, {[]api.Stop{p(9), p(10), p(3)}, api.ErrLoad},
		{[]api.Stop{p(5)}, api.ErrLate}, {[]api.Stop{p(6), q(6)}, api.ErrLate}, {[]api.Stop{p(7)}, api.ErrLate}, {[]api.Stop{p(8), q(8)}, api.ErrLate},
	}
	for _, lead := range [][]api.Stop{nil, {p(1), q(1)}, {p(12), q(12)}, {p(12), p(1), q(1), q(12)}} {
		checkGood(t, w, lead...)
		for _, first := range wrong {
			stops := slices.Concat(lead, first.stops)
			at := len(stops) - 1
			checkFault(t, w, at, first.why, stops...)
			for _, second := range wrong {
				checkFault(t, w, at, first.why, slices.Concat(stops, second.stops)...)
				checkFault(t, w, at, first.why, slices.Concat(stops, []api.Stop{p(11), q(11)}, second.stops)...)
			}
		}
	}
}

// P7.3: Cost where Drive finds a Fault of each kind
func TestCostRefused(t *testing.T) {
	w := example(t)
	w.orders = append(w.orders, w.orders[0])
	w.orders[1].Id, w.orders[1].Size = 2, 1
	checkCost(t, w, 12, true, p(1), q(1))
	for _, stops := range [][]api.Stop{
		{p(9)}, {p(1), q(1), p(9)}, {p(1), q(1), p(1)}, {q(1)}, {p(1), p(2), q(1), q(2)}, {p(1), q(1), p(2), q(2)}, {p(1)},
		{p(1), q(1), q(2)}, {p(2)}, make([]api.Stop, crowd), make([]api.Stop, crowd+1),
	} {
		checkCost(t, w, 0, false, stops...)
	}
	for _, c := range slices.Concat(wrongDrivers(), wrongOrders(0), wrongOrders(1)) {
		w := example(t)
		w.orders = append(w.orders, w.orders[0])
		w.orders[1].Id = 2
		c.turn(&w)
		checkCost(t, w, 0, false)
		checkCost(t, w, 0, false, p(1), q(1))
	}
	checkCost(t, world{d: w.d}, 0, false)
	checkCost(t, world{}, 0, false, p(1))
}

// P7.3: waiting and service cost nothing, and neither does the way home.
func TestCostOfWaysAlone(t *testing.T) {
	for _, from := range []int{0, 1, 2} {
		for _, service := range []int{0, 1, 3} {
			for _, wait := range []int{0, 17, 20} {
				w := example(t)
				w.d.From, w.orders[0].Pick.Service, w.orders[0].Drop.From = from, service, wait
				checkCost(t, w, 12, true, p(1), q(1))
				w.d.Home = 0
				checkCost(t, w, 5, true, p(1), q(1))
			}
		}
	}
	w := example(t)
	w.m = made(t, 2, 0, 0, 0, 0)
	checkCost(t, w, 0, true, p(1), q(1))
}

// R2 and R5: what is handed in stays, with the room behind it, and that is not read.
func TestArgumentsStay(t *testing.T) {
	w := yard(t, 2)
	wrong := api.Order{Id: 1, Size: greatest}
	orders := []api.Order{wrong, w.orders[0], w.orders[1], w.orders[1], wrong}
	stops := []api.Stop{p(9), p(1), p(2), q(1), q(2), p(1), p(9)}
	ordersBefore, stopsBefore := slices.Clone(orders), slices.Clone(stops)
	for end := 1; end <= len(orders); end++ {
		for last := 1; last <= len(stops); last++ {
			w.orders = orders[1:end]
			visits, f := route.Drive(w.m, w.d, w.orders, stops[1:last]...)
			_, ok := route.Cost(w.m, w.d, w.orders, stops[1:last]...)
			good := end <= 3 && last == 1 || end == 3 && last == 5
			if f.Good() != good || ok != good {
				t.Errorf("Drive of %d orders and %d stops = %v", end-1, last-1, f)
			}
			// What is answered, with the room behind it, is no part of what was handed in.
			visits = visits[:cap(visits)]
			for i := range visits {
				visits[i] = api.Visit{Stop: q(-7), Arrive: -7, Begin: -7, Leave: -7, Load: -7}
			}
			if !slices.Equal(orders, ordersBefore) || !slices.Equal(stops, stopsBefore) {
				t.Fatalf("the arguments are now %v, %v, not %v, %v", orders, stops, ordersBefore, stopsBefore)
			}
		}
	}
	if times := w.m.Times(); !slices.Equal(times, []int{0}) {
		t.Errorf("the times are now %v", times)
	}
}

// R2: visits stay when stops, orders and other visits change, and nothing is kept from call to call.
func TestVisitsAreNew(t *testing.T) {
	w := example(t)
	stops := []api.Stop{p(1), q(1)}
	first, _ := route.Drive(w.m, w.d, w.orders, stops...)
	want := slices.Clone(first)
	for range 3 {
		second, f := route.Drive(w.m, w.d, w.orders, stops...)
		if !f.Good() || !slices.Equal(second, want) {
			t.Fatalf("Drive = %v, %v, not %v", second, f, want)
		}
		second = second[:cap(second)]
		for i := range second {
			second[i] = api.Visit{}
		}
		stops[0], stops[1] = q(1), p(1)
		checkFault(t, w, 0, api.ErrFirst, stops...)
		stops[0], stops[1] = p(1), q(1)
		w.orders[0].Pick.To = 7
		checkFault(t, w, 0, api.ErrLate, stops...)
		w.orders[0].Pick.To = 9
		w.orders[0].Id = 2
		checkFault(t, w, 0, api.ErrNone, stops...)
		w.orders[0].Id = 1
		if !slices.Equal(first, want) {
			t.Fatalf("the visits are now %v, not %v", first, want)
		}
	}
}

// The chapter's ways: Drive is variadic, and a Visit has the fields of its Stop.
func TestEmbeddedStops(t *testing.T) {
	w := example(t)
	visits, _ := route.Drive(w.m, w.d, w.orders, p(1), q(1))
	again, _ := route.Drive(w.m, w.d, w.orders, []api.Stop{{Order: 1}, {Order: 1, Drop: true}}...)
	if len(visits) != 2 || !slices.Equal(visits, again) {
		t.Fatalf("%v, not %v", visits, again)
	}
	for i, v := range visits {
		if v.Order != 1 || v.Drop != (i == 1) || v.Stop != (api.Stop{Order: v.Order, Drop: v.Drop}) {
			t.Errorf("visit %d is %+v", i, v)
		}
	}
}

// The document's first example of the whole: picked up at 8, delivered at 14.
func TestFirstExample(t *testing.T) {
	w := example(t)
	w.orders[0].Pick.Window, w.orders[0].Drop.Window = window(8, 8), window(14, 14)
	checkTimes(t, w, []times{{8, 8, 9}, {14, 14, 16}}, p(1), q(1))
}
