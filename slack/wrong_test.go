package slack_test

import (
	"slices"
	"testing"

	"dray/api"
)

// wrongWindows holds windows that are wrong in each of the ways there are.
func wrongWindows() []api.Window {
	return []api.Window{
		window(-1, 9), window(5, 4), window(0, -1), window(0, longest+1), window(longest+1, longest+1),
		window(least, greatest), window(greatest, least), window(least, 20), window(0, greatest), window(0, 1<<32),
	}
}

// wrongDrivers returns changes of the chapter's driver to one that is not right.
func wrongDrivers() []change {
	l := []change{func(w *world) { w.d = api.Driver{} }}
	for _, n := range []int{0, -1, highest + 1, least, greatest, 1<<32 + 4} {
		l = append(l, func(w *world) { w.d.Id = n })
	}
	for _, n := range []int{0, -1, biggest + 1, least, greatest, 1<<32 + 3} {
		l = append(l, func(w *world) { w.d.Room = n })
	}
	for _, n := range []int{-1, 2, places, least, greatest, 1<<32 + 1} {
		l = append(l, func(w *world) { w.d.Home = n })
	}
	for _, n := range wrongWindows() {
		l = append(l, func(w *world) { w.d.Window = n })
	}
	return l
}

// wrongOrders returns changes of an order to one that is not right on a map of two places.
func wrongOrders() []func(o *api.Order) {
	l := []func(o *api.Order){func(o *api.Order) { *o = api.Order{} }}
	add := func(turn func(o *api.Order)) { l = append(l, turn) }
	for _, n := range []int{0, -1, highest + 1, least, greatest, 1<<32 + 1} {
		add(func(o *api.Order) { o.Id = n })
	}
	for _, n := range []int{0, -1, biggest + 1, least, greatest, 1<<32 + 3} {
		add(func(o *api.Order) { o.Size = n })
	}
	for _, n := range []int{-1, 2, places, least, greatest, 1 << 32} {
		add(func(o *api.Order) { o.Pick.Place = n })
		add(func(o *api.Order) { o.Drop.Place = n })
	}
	for _, n := range wrongWindows() {
		add(func(o *api.Order) { o.Pick.Window = n })
		add(func(o *api.Order) { o.Drop.Window = n })
	}
	for _, n := range []int{-1, longest + 1, least, greatest, 1<<32 + 1} {
		add(func(o *api.Order) { o.Pick.Service = n })
		add(func(o *api.Order) { o.Drop.Service = n })
	}
	return l
}

// several returns stops that have no Fault in the chapter's world, and some that have one of each kind.
func several() [][]api.Stop {
	return [][]api.Stop{
		nil, {}, {p(1), q(1)}, {p(1)}, {q(1)}, {p(1), p(1)}, {p(1), q(1), q(1)}, {p(9)}, {q(9)}, {p(least), p(greatest)},
		make([]api.Stop, crowd), make([]api.Stop, crowd+1), make([]api.Stop, 3*crowd),
	}
}

// P8.1 and P8.3: no map
func TestNoMap(t *testing.T) {
	for _, stops := range several() {
		w := example(t)
		w.m = nil
		checkNone(t, w, stops...)
		w.orders = nil
		checkNone(t, w, stops...)
		w.d = api.Driver{}
		checkNone(t, w, stops...)
	}
}

// P8.1 and P8.3: a driver that is not right
func TestDriverWrong(t *testing.T) {
	for _, turn := range wrongDrivers() {
		for _, stops := range several() {
			w := example(t).turned(turn)
			checkNone(t, w, stops...)
			w.orders = nil
			checkNone(t, w, stops...)
		}
	}
}

// P8.1 and P8.3: one order that is not right, with or without stops of its own, at all positions
func TestOrderWrong(t *testing.T) {
	for at := range 3 {
		for _, turn := range wrongOrders() {
			for _, stops := range several() {
				w := example(t)
				for id := 2; id <= 3; id++ {
					o := w.orders[0]
					o.Id = id
					w.orders = append(w.orders, o)
				}
				turn(&w.orders[at])
				checkNone(t, w, stops...)
			}
		}
	}
}

// P8.1 and P8.3: two orders of one Id, and more orders than there may be
func TestOrdersNotKnown(t *testing.T) {
	for _, stops := range several() {
		w := example(t)
		w.orders = append(w.orders, w.orders[0])
		checkNone(t, w, stops...)
		w.orders[1].Size, w.orders[1].Pick.Place = 1, 1
		checkNone(t, w, stops...)
		for _, n := range []int{most + 1, most + 2, 2 * most} {
			checkNone(t, yard(t, n), stops...)
		}
	}
	for i := range most {
		w := yard(t, most)
		checkLatest(t, w, []int{100, 100}, p(1), q(1))
		w.orders[i].Id = w.orders[(i+7)%most].Id
		checkNone(t, w)
		checkNone(t, w, p(1), q(1))
	}
}

// P8.1 and P8.3: each Fault of a stop that Drive knows, alone and behind what can be driven
func TestStopFaults(t *testing.T) {
	w := yard(t, 8)
	w.orders[4].Pick.To, w.orders[5].Drop.To = 9, 9
	w.orders[6].Pick.Service, w.orders[7].Drop.Service = 91, 91
	w.orders[2].Size, w.orders[3].Size = most+1, most
	for _, lead := range [][]api.Stop{nil, {p(1), q(1)}} {
		for _, stops := range [][]api.Stop{
			{p(9)}, {q(9)}, {p(9), q(9)}, {p(0), q(0)}, {p(-1)}, {p(least)}, {q(least)}, {p(greatest), q(greatest)}, {p(1<<32 + 2)},
			{p(2), p(2)}, {p(2), p(2), q(2)}, {p(2), q(2), q(2)}, {p(2), q(2), p(2), q(2)},
			{q(2)}, {q(2), p(2)},
			{p(3), q(3)}, {p(2), p(4), q(4), q(2)},
			{p(5), q(5)}, {p(6), q(6)}, {p(7), q(7)}, {p(8), q(8)},
			{p(2)}, {p(2), p(4), q(2)},
		} {
			checkNone(t, w, slices.Concat(lead, stops)...)
		}
	}
	for _, s := range []api.Stop{p(1), q(1)} {
		checkNone(t, w, p(1), q(1), s)
	}
}

// P8.1 and P8.3: more stops than there may be
func TestTooManyStops(t *testing.T) {
	w := yard(t, most)
	for _, s := range []api.Stop{p(1), q(most), p(most + 1), p(0), q(least), p(greatest)} {
		checkNone(t, w, append(pairs(most), s)...)
		for _, n := range []int{crowd + 1, crowd + 2, 2 * crowd, 1 << 16} {
			checkNone(t, w, slices.Repeat([]api.Stop{s}, n)...)
		}
	}
	w.orders = nil
	checkNone(t, w, append(pairs(most), p(1))...)
}
