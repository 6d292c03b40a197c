package planner_test

import (
	"slices"
	"testing"

	"dray/api"
	"dray/audit"
	"dray/geo"
	"dray/planner"
)

// worlds returns worlds in which nothing is wrong: with some of it done, with drivers that are retired, with orders and
// drivers at their most, on a map that is not Even, and without anything.
func worlds(t *testing.T) []world {
	t.Helper()
	w, o := example(t)
	that := world{w.m, book(w.b.Drivers, []api.Order{o}, served(4, 1, p(1), q(1)))}
	gone, other := town(t), town(t)
	for i := range gone.b.Drivers {
		gone.b.Drivers[i].Retired = true
	}
	other.b.Drivers[1].Retired, other.b.Drivers[3].Retired = true, true
	full, busy := yards(t, fleet, most), yards(t, 2, most)
	full.b.Plan[0].Served, busy.b.Plan[0].Served = 71, 76
	return []world{w, that, lane(t), town(t), short(t), gone, other, {m: w.m}, {m: town(t).m}, yards(t, fleet, 3), full, busy}
}

// broken returns books that are not right, of each kind there is, made of one that is right. Each has one thing wrong with it.
func broken(w world) []planner.Book {
	var l []planner.Book
	add := func(turn func(b *planner.Book)) {
		b := copied(w.b)
		turn(&b)
		l = append(l, b)
	}
	for i, d := range w.b.Drivers {
		add(func(b *planner.Book) { b.Drivers = slices.Delete(b.Drivers, i, i+1) })
		add(func(b *planner.Book) { b.Drivers = slices.Insert(b.Drivers, i, d) })
		add(func(b *planner.Book) { d.Id++; b.Drivers = slices.Insert(b.Drivers, i+1, d) })
		add(func(b *planner.Book) { b.Drivers[i].Room = 0 })
		add(func(b *planner.Book) { b.Drivers[i].Home = places })
		add(func(b *planner.Book) { b.Drivers[i].From = b.Drivers[i].To + 1 })
		add(func(b *planner.Book) { b.Plan = slices.Delete(b.Plan, i, i+1) })
		add(func(b *planner.Book) { b.Plan = slices.Insert(b.Plan, i, b.Plan[i]) })
		add(func(b *planner.Book) { b.Plan = slices.Insert(b.Plan, i, drive(d.Id-2)) })
		add(func(b *planner.Book) { b.Plan[i].Served = len(b.Plan[i].Stops) + 1 })
		add(func(b *planner.Book) { b.Plan[i].Stops = append(b.Plan[i].Stops, p(99), q(99)) })
		for j := range i {
			add(func(b *planner.Book) { b.Drivers[i], b.Drivers[j] = b.Drivers[j], b.Drivers[i] })
			add(func(b *planner.Book) { b.Plan[i], b.Plan[j] = b.Plan[j], b.Plan[i] })
		}
		for n := range w.b.Plan[i].Stops {
			add(func(b *planner.Book) { b.Plan[i].Stops = slices.Delete(b.Plan[i].Stops, n, n+1) })
		}
	}
	for i, o := range w.b.Orders {
		add(func(b *planner.Book) { b.Orders = slices.Delete(b.Orders, i, i+1) })
		add(func(b *planner.Book) { b.Orders = slices.Insert(b.Orders, i, o) })
		add(func(b *planner.Book) { o.Id = 999; b.Orders = append(b.Orders, o) })
		add(func(b *planner.Book) { b.Orders[i].Size = biggest })
		add(func(b *planner.Book) { b.Orders[i].Pick.Place = -1 })
		add(func(b *planner.Book) { b.Orders[i].Drop.To = -1 })
		add(func(b *planner.Book) { b.Orders[i].Drop.Service = -1 })
		add(func(b *planner.Book) { b.Orders[i].Drop.Service = longest })
		for j := range i {
			add(func(b *planner.Book) { b.Orders[i], b.Orders[j] = b.Orders[j], b.Orders[i] })
		}
	}
	return l
}

// P14.1: books that are right
func TestRight(t *testing.T) {
	for _, w := range worlds(t) {
		checkRight(t, w, true)
		w.m = nil
		checkRight(t, w, false)
	}
	checkRight(t, world{}, false)
	checkRight(t, world{m: &geo.Map{}}, true)
}

// P14.1: books of which one thing is not right
func TestBroken(t *testing.T) {
	for _, w := range worlds(t) {
		for _, b := range broken(w) {
			checkRight(t, world{w.m, b}, false)
		}
	}
}

// P14.1: a book for each of audit's Troubles, and for no other
func TestTroubles(t *testing.T) {
	w, o := example(t)
	d := w.b.Drivers[0]
	late, early, big := o, o, o
	late.Pick.From, late.Pick.To, early.Drop.To, big.Size = 3, 7, 13, 4
	orders := func(l ...api.Order) []api.Order { return l }
	for _, c := range []struct {
		b    planner.Book
		want api.Trouble
	}{
		{book([]api.Driver{d, d}, nil, drive(4)), api.Trouble{Why: api.ErrArg}},
		{book([]api.Driver{{}}, nil), api.Trouble{Why: api.ErrArg}},
		{book(nil, orders(api.Order{})), api.Trouble{Why: api.ErrArg}},
		{book(nil, nil, drive(0)), api.Trouble{Why: api.ErrArg}},
		{book(nil, nil, drive(4)), api.Trouble{Driver: 4, Why: api.ErrNone}},
		{book(w.b.Drivers, nil, drive(4), drive(5)), api.Trouble{Driver: 5, Why: api.ErrNone}},
		{book(w.b.Drivers, orders(o), drive(4, p(1), q(1), p(2))), api.Trouble{Driver: 4, Order: 2, Why: api.ErrNone}},
		{book(w.b.Drivers, orders(o), drive(4, q(1))), api.Trouble{Driver: 4, Order: 1, Why: api.ErrFirst}},
		{book(w.b.Drivers, orders(big), drive(4, p(1), q(1))), api.Trouble{Driver: 4, Order: 1, Why: api.ErrLoad}},
		{book(w.b.Drivers, orders(late), drive(4, p(1), q(1))), api.Trouble{Driver: 4, Order: 1, Why: api.ErrLate}},
		{book(w.b.Drivers, orders(early), drive(4, p(1), q(1))), api.Trouble{Driver: 4, Order: 1, Why: api.ErrLate}},
		{book(w.b.Drivers, orders(o), drive(4, p(1))), api.Trouble{Driver: 4, Order: 1, Why: api.ErrLack}},
		{book(w.b.Drivers, orders(o), drive(4)), api.Trouble{Order: 1, Why: api.ErrMiss}},
	} {
		l := audit.Audit(w.m, c.b.Drivers, c.b.Orders, c.b.Plan)
		if !slices.Equal(l, []api.Trouble{c.want}) {
			t.Fatalf("Audit of %+v = %v, not %v", c.b, l, c.want)
		}
		checkRight(t, world{w.m, c.b}, false)
	}
	checkRight(t, world{w.m, book(w.b.Drivers, orders(o), drive(4, p(1), q(1)))}, true)
}

// arranged hands on each arrangement of the numbers below n.
func arranged(n int, f func(l []int)) {
	var grow func(l []int)
	grow = func(l []int) {
		if len(l) == n {
			f(l)
			return
		}
		for k := range n {
			if !slices.Contains(l, k) {
				grow(append(slices.Clone(l), k))
			}
		}
	}
	grow(nil)
}

// P14.1: drivers and orders that do not ascend, of which nothing else is wrong
func TestAscending(t *testing.T) {
	w := town(t)
	for n := range 5 {
		arranged(n, func(l []int) {
			b := copied(w.b)
			o := copied(w.b)
			for i, k := range l {
				b.Drivers[i], o.Orders[i] = w.b.Drivers[k], w.b.Orders[k]
			}
			if l := audit.Audit(w.m, b.Drivers, o.Orders, w.b.Plan); len(l) > 0 {
				t.Fatalf("Audit of the town otherwise arranged = %v", l)
			}
			checkRight(t, world{w.m, b}, slices.IsSorted(l))
			checkRight(t, world{w.m, o}, slices.IsSorted(l))
		})
	}
	// The greatest Ids there are, and neighbours
	for _, ids := range [][]int{{1, 2}, {2, 1}, {1, highest}, {highest, 1}, {highest - 1, highest}, {highest, highest - 1}} {
		b := book([]api.Driver{idler(ids[0], 0), idler(ids[1], 0)}, nil, drive(min(ids[0], ids[1])), drive(max(ids[0], ids[1])))
		checkRight(t, world{w.m, b}, ids[0] < ids[1])
		b = book([]api.Driver{idler(1, 0)}, []api.Order{errand(ids[0], 0, 0), errand(ids[1], 0, 0)}, drive(1, p(1), q(1)))
		b.Plan[0].Stops = []api.Stop{p(ids[0]), q(ids[0]), p(ids[1]), q(ids[1])}
		checkRight(t, world{w.m, b}, ids[0] < ids[1])
	}
}

// P14.1: each set of drivers with routes for each set of them
func TestRouteForEach(t *testing.T) {
	m := made(t, 1, 0)
	for drivers := range 1 << 5 {
		for routes := range 1 << 5 {
			var b planner.Book
			for k := range 5 {
				if drivers>>k&1 == 1 {
					b.Drivers = append(b.Drivers, idler(k+1, 0))
				}
				if routes>>k&1 == 1 {
					b.Plan = append(b.Plan, drive(k+1))
				}
			}
			checkRight(t, world{m, b}, drivers == routes)
		}
	}
}

// checkGate holds what Gate answers.
func checkGate(t *testing.T, m *geo.Map, old, next planner.Book, ok bool) {
	t.Helper()
	if ok {
		checkBook(t, world{m, next}, gate(old), next, 0)
		return
	}
	check(t, world{m, next}, gate(old), api.ErrGate)
}

// P14.2: next is not right, whatever old is.
func TestGateNextWrong(t *testing.T) {
	for _, w := range worlds(t) {
		for _, b := range broken(w) {
			checkGate(t, w.m, w.b, b, false)
			checkGate(t, w.m, b, b, false)
			checkGate(t, w.m, planner.Book{}, b, false)
		}
		checkGate(t, nil, w.b, w.b, false)
		checkGate(t, nil, planner.Book{}, w.b, false)
	}
	checkGate(t, nil, planner.Book{}, planner.Book{}, false)
}

// P14.2: of old only what is done counts, so it need not be right but for its plan, as chapter 9 has it.
func TestGateOldWrong(t *testing.T) {
	for _, w := range worlds(t) {
		old := copied(w.b)
		old.Drivers, old.Orders = nil, nil
		checkGate(t, w.m, old, w.b, true)
		old.Drivers, old.Orders = make([]api.Driver, 2), make([]api.Order, 2)
		checkGate(t, w.m, old, w.b, true)
		for _, b := range broken(w) {
			checkGate(t, w.m, b, w.b, audit.Kept(b.Plan, w.b.Plan))
		}
		for _, wrong := range []api.Plan{{{}}, {drive(4), drive(4)}, {drive(5), drive(4)}, {served(4, 1)}, {drive(4, p(1), p(1))}, make(api.Plan, 300)} {
			checkGate(t, w.m, planner.Book{Plan: wrong}, w.b, false)
		}
	}
	// Old has the delivery alone of an order that is not there, and that is no matter: nothing of it is done.
	w := town(t)
	old := copied(w.b)
	old.Plan[2].Stops = []api.Stop{q(77)}
	checkGate(t, w.m, old, w.b, true)
	old.Plan[2].Served = 1
	checkGate(t, w.m, old, w.b, false)
}

// P14.2: next the same as old
func TestGateSame(t *testing.T) {
	for _, w := range worlds(t) {
		checkGate(t, w.m, w.b, w.b, true)
	}
}

// P14.2: next is right, and not Kept.
func TestGateNotKept(t *testing.T) {
	w := town(t)
	for k, r := range w.b.Plan {
		for n := range len(r.Stops) + 1 {
			next := copied(w.b)
			next.Plan[k].Served = n
			checkRight(t, world{w.m, next}, true)
			checkGate(t, w.m, w.b, next, n == r.Served)
			checkGate(t, w.m, next, w.b, n == r.Served)
		}
		// A driver goes, with its route and its orders.
		next := copied(w.b)
		for _, s := range r.Stops {
			next = takenOut(next, s.Order)
		}
		next.Drivers, next.Plan = slices.Delete(next.Drivers, k, k+1), slices.Delete(next.Plan, k, k+1)
		checkRight(t, world{w.m, next}, true)
		checkGate(t, w.m, w.b, next, false)
		// It comes, which is in order if it has done nothing.
		checkGate(t, w.m, next, w.b, r.Served == 0)
		checkGate(t, w.m, planner.Book{}, next, false)
	}
	checkGate(t, w.m, planner.Book{}, w.b, false)
	for k := range w.b.Plan {
		w.b.Plan[k].Served = 0
	}
	checkGate(t, w.m, planner.Book{}, w.b, true)
}

// P14.2: what is done is another stop, or other stops in another order.
func TestGateDone(t *testing.T) {
	w := town(t)
	next := copied(w.b)
	next.Plan[0].Stops = []api.Stop{p(6), p(2), q(6), q(2)}
	checkRight(t, world{w.m, next}, true)
	checkGate(t, w.m, w.b, next, false)
	next.Plan[0].Stops = []api.Stop{p(2), q(2), p(6), q(6)}
	checkGate(t, w.m, w.b, next, true)
	next = copied(w.b)
	next.Plan[1].Stops = []api.Stop{p(8), q(8), p(4), q(4)}
	checkRight(t, world{w.m, next}, true)
	checkGate(t, w.m, w.b, next, false)
	// All that is not done may be elsewhere, be gone, or be new.
	next = takenOut(takenOut(w.b, 6), 9)
	next.Plan[3].Stops = []api.Stop{p(9), q(9), p(3), q(3)}
	next.Orders = append(next.Orders, errand(9, 2, 0))
	next.Drivers[3].Home, next.Drivers[0].Retired = 0, true
	checkGate(t, w.m, w.b, next, true)
	checkGate(t, w.m, next, w.b, true)
}
