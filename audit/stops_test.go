package audit_test

import (
	"slices"
	"testing"

	"dray/api"
)

// P11.1: a route whose Driver is not there, the first, a middle and the last one: the rest of it is skipped, those behind
// it are told, and its orders stand.
func TestUnknownDriver(t *testing.T) {
	for k, r := range town(t).plan {
		w := town(t)
		i := slices.IndexFunc(w.drivers, func(d api.Driver) bool { return d.Id == r.Driver })
		want := []api.Trouble{trouble(r.Driver, 0, api.ErrNone), trouble(0, 70, api.ErrMiss)}
		for _, id := range []int{1, r.Driver - 1, r.Driver + 1, highest} {
			other := copied(w)
			other.drivers[i].Id = id
			check(t, other, want...)
		}
		w.drivers = slices.Delete(w.drivers, i, i+1)
		check(t, w, want...)
		// Whatever stands on it.
		for _, stops := range [][]api.Stop{{q(70)}, {p(70), p(99)}, {q(99), q(70), p(98)}} {
			other := copied(w)
			other.plan[k].Stops = append(other.plan[k].Stops, stops...)
			check(t, other, want[0])
		}
		w.drivers = nil
		want = nil
		for _, r := range w.plan {
			want = append(want, trouble(r.Driver, 0, api.ErrNone))
		}
		check(t, w, append(want, trouble(0, 70, api.ErrMiss))...)
	}
}

// P11.1: neither a route's index nor a driver's counts, nor the number of an order.
func TestOtherNumbers(t *testing.T) {
	w := town(t)
	w.plan = api.Plan{drive(1), drive(2, p(70), q(70)), drive(4, p(12)), drive(10)}
	check(t, w, slices.Concat([]api.Trouble{
		trouble(1, 0, api.ErrNone), trouble(2, 0, api.ErrNone), trouble(4, 0, api.ErrNone), trouble(10, 0, api.ErrNone),
	}, misses(60, 30, 10, 20, 40, 50))...)
	w.plan = api.Plan{drive(5, p(1), q(3), p(12), q(7))}
	check(t, w, slices.Concat([]api.Trouble{
		trouble(5, 1, api.ErrNone), trouble(5, 3, api.ErrNone), trouble(5, 12, api.ErrNone), trouble(5, 7, api.ErrNone),
	}, misses(60, 30, 10, 70, 20, 40, 50))...)
}

// P11.1: stops of no such order, at each place: the driver passes over them, and makes the rest in time and in order.
func TestUnknownOrder(t *testing.T) {
	for k, r := range town(t).plan {
		for i := range len(r.Stops) + 1 {
			for _, stops := range [][]api.Stop{{p(99)}, {q(99)}, {p(99), q(99)}, {q(99), p(99)}, {p(1), q(highest), p(71)}} {
				w := town(t)
				w.plan[k].Stops = slices.Insert(slices.Clone(r.Stops), i, stops...)
				var want []api.Trouble
				for _, s := range stops {
					want = append(want, trouble(r.Driver, s.Order, api.ErrNone))
				}
				check(t, w, append(want, trouble(0, 70, api.ErrMiss))...)
			}
		}
	}
}

// P11.1: with an order taken out of the list, both of its stops are of no such order, wherever they stand, and what is left
// is told of as if they were not there.
func TestOrderTakenOut(t *testing.T) {
	for _, w := range []world{town(t), loose(t), bad(t)} {
		for i, o := range w.orders {
			less := copied(w)
			less.orders = slices.Delete(less.orders, i, i+1)
			without := copied(less)
			for k, r := range without.plan {
				without.plan[k].Stops = slices.DeleteFunc(r.Stops, func(s api.Stop) bool { return s.Order == o.Id })
			}
			want := slices.DeleteFunc(audited(t, less), func(x api.Trouble) bool { return x.Order == o.Id })
			check(t, without, want...)
		}
	}
}

// P11.1: a Drop whose pickup stands nowhere, behind it, or on another route; whatever is ahead of it.
func TestFirst(t *testing.T) {
	for _, c := range []struct {
		plan api.Plan
		want []api.Trouble
	}{
		{api.Plan{drive(7, q(20))}, []api.Trouble{trouble(7, 20, api.ErrFirst)}},
		{api.Plan{drive(3), drive(7), drive(12, q(60))}, []api.Trouble{trouble(12, 60, api.ErrFirst)}},
		{
			api.Plan{drive(7, q(20), p(20))},
			[]api.Trouble{trouble(7, 20, api.ErrFirst), trouble(7, 20, api.ErrLack)},
		},
		{
			api.Plan{drive(7, p(20), q(30), p(30), q(20))},
			[]api.Trouble{trouble(7, 30, api.ErrFirst), trouble(7, 30, api.ErrLack)},
		},
		{
			api.Plan{drive(7, p(20), p(30), q(20), q(10), q(30), p(10))},
			[]api.Trouble{trouble(7, 10, api.ErrFirst), trouble(7, 10, api.ErrLack)},
		},
		{
			api.Plan{drive(3, q(20)), drive(5, p(20))},
			[]api.Trouble{trouble(3, 20, api.ErrFirst), trouble(5, 20, api.ErrLack)},
		},
		{
			api.Plan{drive(3, p(20)), drive(5, q(20))},
			[]api.Trouble{trouble(3, 20, api.ErrLack), trouble(5, 20, api.ErrFirst)},
		},
		// What is loaded is not what is asked: another order's pickup does not serve.
		{
			api.Plan{drive(5, p(70), q(20))},
			[]api.Trouble{trouble(5, 20, api.ErrFirst), trouble(5, 70, api.ErrLack)},
		},
		{
			api.Plan{drive(5, q(10), q(20), q(70))},
			[]api.Trouble{trouble(5, 10, api.ErrFirst), trouble(5, 20, api.ErrFirst), trouble(5, 70, api.ErrFirst)},
		},
	} {
		w := loose(t)
		for i := range w.drivers {
			w.drivers[i].Room = biggest
		}
		w.plan = c.plan
		w.orders = slices.DeleteFunc(w.orders, func(o api.Order) bool { return !standsThere(w, o.Id) })
		check(t, w, c.want...)
	}
}

// P11.1: a Drop whose pickup does not precede it is made all the same, where and when the driver comes to it.
func TestFirstIsMade(t *testing.T) {
	w := example(t)
	w.orders = append(w.orders, api.Order{Id: 2, Size: 1, Pick: site(1, 0, 99, 0), Drop: site(0, 0, 99, 4)})
	w.plan = api.Plan{drive(4, q(2), p(1), q(1))}
	first := trouble(4, 2, api.ErrFirst)
	// From 1 to place 0 at 8, until 12; that is where 1 is picked up, until 13, and it is delivered at 18.
	w.orders[0].Pick.Window, w.orders[0].Drop.Window = window(12, 12), window(18, 18)
	w.drivers[0].Window = window(1, 20)
	check(t, w, first)
	w.orders[0].Pick.Window = window(11, 11)
	check(t, w, first, trouble(4, 1, api.ErrLate))
	w.orders[0].Pick.Window, w.orders[0].Drop.Window = window(12, 12), window(17, 17)
	check(t, w, first, trouble(4, 1, api.ErrLate))
	w.orders[0].Drop.Window, w.drivers[0].Window = window(18, 18), window(1, 19)
	check(t, w, first, trouble(4, 1, api.ErrLate))
	w.orders[1].Drop.Window = window(7, 7)
	check(t, w, first, trouble(4, 2, api.ErrLate), trouble(4, 1, api.ErrLate))
}

// loads is a yard of one driver with that Room, orders up to n and these stops; all orders but those that stand are left
// out.
func loads(t *testing.T, room int, stops ...api.Stop) world {
	t.Helper()
	w := yard(t, 1, 9)
	w.drivers[0].Room = room
	w.plan = api.Plan{drive(10, stops...)}
	w.orders = slices.DeleteFunc(w.orders, func(o api.Order) bool { return !standsThere(w, o.Id) })
	return w
}

// P11.1: pickups that make the load as great as Room, one greater, and greater still; what is too much is carried on until
// it is delivered, and a Drop is never too much.
func TestLoads(t *testing.T) {
	const load, first, lack = api.ErrLoad, api.ErrFirst, api.ErrLack
	for _, c := range []struct {
		room  int
		stops []api.Stop
		want  []told
	}{
		{1, []api.Stop{p(1), q(1), p(2), q(2)}, nil},
		{1, []api.Stop{p(1), p(2), q(2), q(1)}, []told{{2, load}}},
		{2, []api.Stop{p(1), p(2), q(2), q(1)}, nil},
		{2, []api.Stop{p(1), p(2), p(3), p(4), q(1), q(2), q(3), q(4)}, []told{{3, load}, {4, load}}},
		{3, []api.Stop{p(1), p(2), p(3), p(4), q(1), q(2), q(3), q(4)}, []told{{4, load}}},
		{4, []api.Stop{p(1), p(2), p(3), p(4), q(1), q(2), q(3), q(4)}, nil},
		// One is too much, goes again, and the next one is too much as well; with one more gone it is not any more.
		{2, []api.Stop{p(1), p(2), p(3), q(3), p(4), q(4), q(2), p(5), q(5), q(1)}, []told{{3, load}, {4, load}}},
		{1, []api.Stop{p(1), p(2), p(3), q(1), p(4), q(2), q(3), q(4)}, []told{{2, load}, {3, load}, {4, load}}},
		{1, []api.Stop{p(1), p(2), p(3), q(1), q(2), q(3), p(4), q(4)}, []told{{2, load}, {3, load}}},
		// A Drop without its pickup makes no room, however many there are.
		{1, []api.Stop{q(1), p(2), q(2)}, []told{{1, first}}},
		{1, []api.Stop{q(1), p(2), p(3), q(2), q(3)}, []told{{1, first}, {3, load}}},
		{1, []api.Stop{p(2), q(1), p(3), q(2), q(3)}, []told{{1, first}, {3, load}}},
		{2, []api.Stop{q(1), q(2), q(3), p(4), p(5), p(6), q(4), q(5), q(6)}, []told{{1, first}, {2, first}, {3, first}, {6, load}}},
		// Its pickup behind it counts, and nothing takes that away.
		{1, []api.Stop{q(1), p(1), p(2), q(2)}, []told{{1, first}, {2, load}, {1, lack}}},
		{2, []api.Stop{q(1), p(1), p(2), q(2)}, []told{{1, first}, {1, lack}}},
		{2, []api.Stop{q(1), p(1), p(2), p(3), q(2), q(3)}, []told{{1, first}, {3, load}, {1, lack}}},
		// What is never delivered stays.
		{1, []api.Stop{p(1), p(2), q(2), p(3), q(3)}, []told{{2, load}, {3, load}, {1, lack}}},
		{2, []api.Stop{p(1), p(2), p(3)}, []told{{3, load}, {1, lack}, {2, lack}, {3, lack}}},
	} {
		w := loads(t, c.room, c.stops...)
		var want []api.Trouble
		for _, x := range c.want {
			want = append(want, trouble(10, x.order, x.why))
		}
		check(t, w, want...)
		// What no order's stops carry, between any two of them, weighs nothing.
		w.plan[0].Stops = nil
		for i, s := range c.stops {
			w.plan[0].Stops = append(w.plan[0].Stops, s, api.Stop{Order: 100 + i, Drop: i%2 == 0})
		}
		got := slices.DeleteFunc(audited(t, w), func(x api.Trouble) bool { return x.Why == api.ErrNone })
		if !slices.Equal(got, want) {
			t.Errorf("with other stops between, %v with the Room %d: %v", c.stops, c.room, got)
		}
	}
}

// P11.1: sizes and Rooms up to the bounds
func TestSizes(t *testing.T) {
	for _, size := range []int{1, 2, biggest - 1, biggest} {
		for _, room := range []int{1, 2, biggest - 1, biggest} {
			w := example(t)
			w.orders[0].Size, w.drivers[0].Room = size, room
			if size > room {
				check(t, w, trouble(4, 1, api.ErrLoad))
			} else {
				check(t, w)
			}
		}
	}
	// All that can be loaded at once.
	w := yard(t, 1, most)
	for i := range w.orders {
		w.orders[i].Size = biggest
	}
	w.drivers[0].Room = biggest
	var want []api.Trouble
	for id := 2; id <= most; id++ {
		want = append(want, trouble(10, id, api.ErrLoad))
	}
	check(t, w, want...)
}

// P11.1: the Room of each driver counts on its own route alone.
func TestRooms(t *testing.T) {
	greatestLoads := map[int]int{3: 4, 7: 10, 12: 5}
	for i, d := range town(t).drivers {
		for room := 1; room <= 12; room++ {
			w := town(t)
			w.drivers[i].Room = room
			for j := range w.drivers {
				if j != i {
					w.drivers[j].Room++
				}
			}
			loads := []api.Trouble(nil)
			for _, x := range audited(t, w) {
				if x.Why == api.ErrLoad && x.Driver == d.Id {
					loads = append(loads, x)
				} else if x != trouble(0, 70, api.ErrMiss) {
					t.Fatalf("with the Room %d of %d: %v", room, d.Id, x)
				}
			}
			if (len(loads) > 0) != (room < greatestLoads[d.Id]) {
				t.Fatalf("with the Room %d of %d: %v", room, d.Id, loads)
			}
		}
	}
}

// P11.1: pickups without their deliveries, told in the order of the stops, behind all that is told of the stops
func TestLack(t *testing.T) {
	for _, c := range []struct {
		stops []api.Stop
		lacks []int
	}{
		{[]api.Stop{p(1)}, []int{1}},
		{[]api.Stop{p(1), p(2)}, []int{1, 2}},
		{[]api.Stop{p(2), p(1)}, []int{2, 1}},
		{[]api.Stop{p(9), p(3), p(7), p(1)}, []int{9, 3, 7, 1}},
		{[]api.Stop{p(1), p(2), q(2)}, []int{1}},
		{[]api.Stop{p(1), p(2), q(1)}, []int{2}},
		{[]api.Stop{p(1), q(1), p(2)}, []int{2}},
		{[]api.Stop{p(5), p(4), q(5), p(3), p(2), q(3), p(1)}, []int{4, 2, 1}},
		{[]api.Stop{p(1), p(2), p(3), p(4), q(4), q(2)}, []int{1, 3}},
	} {
		w := loads(t, 9, c.stops...)
		var want []api.Trouble
		for _, id := range c.lacks {
			want = append(want, trouble(10, id, api.ErrLack))
		}
		check(t, w, want...)
		// Other orders' deliveries stand on another route, and those of no order do not serve.
		w.plan = append(w.plan, drive(20))
		w.drivers = append(w.drivers, api.Driver{Id: 20, Room: 1, Window: window(0, 9)})
		elsewhere := slices.Clone(want)
		for _, id := range c.lacks {
			w.plan[1].Stops = append(w.plan[1].Stops, q(id))
			elsewhere = append(elsewhere, trouble(20, id, api.ErrFirst))
		}
		check(t, w, elsewhere...)
		// Of orders that are not there, nothing is told but that.
		w.plan, w.orders = w.plan[:1], nil
		want = nil
		for _, s := range c.stops {
			want = append(want, trouble(10, s.Order, api.ErrNone))
		}
		check(t, w, want...)
	}
}

// P11.1: deliveries ahead of their pickups, some or all of them: a delivery that precedes does not follow.
func TestLackOfWhatPrecedes(t *testing.T) {
	const n = 5
	for turned := range 1 << n {
		for _, nested := range []bool{false, true} {
			var stops []api.Stop
			var firsts, lacks []api.Trouble
			for i := range n {
				pair := []api.Stop{p(i + 1), q(i + 1)}
				if turned>>i&1 == 1 {
					slices.Reverse(pair)
					firsts = append(firsts, trouble(10, i+1, api.ErrFirst))
					lacks = append(lacks, trouble(10, i+1, api.ErrLack))
				}
				if nested {
					stops = slices.Insert(stops, i, pair...)
				} else {
					stops = append(stops, pair...)
				}
			}
			want := slices.Concat(firsts, lacks)
			if nested {
				// Nested, what is ahead of the middle comes in this order, and what is behind it in the other.
				slices.Reverse(lacks)
				want = slices.Concat(firsts, lacks)
			}
			check(t, loads(t, n, stops...), want...)
		}
	}
}

// P11.1: orders that stand nowhere, in the order in which they are listed
func TestMiss(t *testing.T) {
	for standing := range 1 << 5 {
		for _, ids := range [][]int{{1, 2, 3, 4, 5}, {5, 4, 3, 2, 1}, {3, 5, 1, 4, 2}} {
			w := yard(t, 1, 5)
			w.plan = api.Plan{drive(10), drive(20)}
			w.drivers = append(w.drivers, api.Driver{Id: 20, Room: 9, Window: window(0, 9)})
			var missing []int
			for i, id := range ids {
				w.orders[i].Id = id
				if standing>>i&1 == 0 {
					missing = append(missing, id)
				} else {
					k := id % 2
					w.plan[k].Stops = append(w.plan[k].Stops, p(id), q(id))
				}
			}
			check(t, w, misses(missing...)...)
		}
	}
}

// P11.1: an order stands with one of its stops alone, on whichever route, be it one that is skipped.
func TestStandsWithOneStop(t *testing.T) {
	for _, s := range []api.Stop{p(2), q(2)} {
		why := api.ErrLack
		if s.Drop {
			why = api.ErrFirst
		}
		for _, known := range []bool{true, false} {
			for k := range 3 {
				w := yard(t, 1, 4)
				w.plan = api.Plan{drive(5, p(100)), drive(10, p(4), q(4)), drive(15)}
				w.plan[k].Stops = append(w.plan[k].Stops, s)
				none := trouble(5, 0, api.ErrNone)
				want := []api.Trouble{none, trouble(15, 0, api.ErrNone)}
				if k == 1 {
					want = slices.Insert(want, 1, trouble(10, 2, why))
				}
				if known && k != 1 {
					w.drivers = append(w.drivers, api.Driver{Id: 5*k + 5, Room: 9, Window: window(0, 9)})
					want[k/2] = trouble(5*k+5, 2, why)
					if k == 0 {
						want = slices.Insert(want, 0, trouble(5, 100, api.ErrNone))
					}
				}
				check(t, w, append(want, misses(1, 3)...)...)
			}
		}
	}
}

// P11.1: with all orders there can be, on routes of all drivers there can be, none stands, one or all.
func TestMostMisses(t *testing.T) {
	w := yard(t, fleet, most)
	full := w.plan
	var all []int
	for _, o := range w.orders {
		all = append(all, o.Id)
	}
	w.plan = nil
	check(t, w, misses(all...)...)
	for k, r := range full {
		w.plan = api.Plan{r}
		missing := slices.Delete(slices.Clone(all), 5*k, 5*k+5)
		check(t, w, misses(missing...)...)
	}
	w.plan = full
	check(t, w)
	slices.Reverse(w.orders)
	slices.Reverse(all)
	w.plan = nil
	check(t, w, misses(all...)...)
}

// P11.1: MaxStops stops, all of which are wrong for as many reasons as there can be
func TestMostTroubles(t *testing.T) {
	w := yard(t, 1, most)
	w.drivers[0].Room, w.drivers[0].Window = 1, window(10, 10)
	var stops []api.Stop
	var want, lacks []api.Trouble
	for i, o := range w.orders {
		stops = append(stops, q(o.Id), p(o.Id))
		w.orders[i].Drop.Service, w.orders[i].Size = 1, 2
		want = append(want, trouble(10, o.Id, api.ErrFirst), trouble(10, o.Id, api.ErrLate))
		want = append(want, trouble(10, o.Id, api.ErrLoad), trouble(10, o.Id, api.ErrLate))
		lacks = append(lacks, trouble(10, o.Id, api.ErrLack))
	}
	w.plan[0].Stops = stops
	if len(stops) != crowd {
		t.Fatalf("%d stops", len(stops))
	}
	check(t, w, slices.Concat(want, lacks)...)
}
