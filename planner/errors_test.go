package planner_test

import (
	"slices"
	"testing"

	"dray/api"
	"dray/planner"
)

// calls returns a call of each function that changes a book, which each refuses for the book first.
func calls() []ask {
	return []ask{place(errand(1, 0, 0), budgets), drop(20), hire(idler(1, 0)), retire(10, budgets), serve(4, 1), mend(budgets)}
}

// P14.3: a book that is not right, together with what would be in order otherwise, and with each of the other errors
func TestBookFirst(t *testing.T) {
	w, o := example(t)
	that := world{w.m, book(w.b.Drivers, []api.Order{o}, served(4, 1, p(1), q(1)))}
	gone, wrong := *driverThere(w.b, 4), errand(1, 0, 0)
	gone.Retired, wrong.Size = true, 0
	all := append(calls(), place(o, -1), place(wrong, 9), place(errand(2, 7, 0), 9), place(errand(20, 0, 0), 9), place(errand(1, 0, 0), 0),
		drop(1), drop(2), drop(-1), hire(gone), hire(api.Driver{}), hire(idler(10, 0)), hire(idler(4, 0)), hire(api.Driver{Id: 1}),
		retire(4, -1), retire(10, budgets+1), retire(99, 9), retire(4, 0), serve(99, 1), serve(4, 0), serve(10, greatest), mend(-1), mend(0))
	for _, w := range []world{w, that, lane(t), town(t), short(t), yards(t, fleet, 1)} {
		l := broken(w)
		for _, c := range all {
			for _, b := range l {
				check(t, world{w.m, b}, c, api.ErrArg)
			}
			check(t, world{b: w.b}, c, api.ErrArg)
		}
	}
	for _, c := range all {
		check(t, world{}, c, api.ErrArg)
		for i, b := range broken(yards(t, 2, most)) {
			if i%40 == 0 {
				check(t, world{made(t, 1, 0), b}, c, api.ErrArg)
			}
		}
	}
}

// set is a set of errors: bit k tells that the error k of a list applies.
type set int

func (s set) has(k int) bool { return s>>k&1 == 1 }

// sets hands on each set of the errors, with the first one of it.
func sets(whys []api.Errno, f func(s set, first api.Errno)) {
	for s := range set(1) << len(whys) {
		first := api.OK
		for k := range whys {
			if s.has(k) {
				first = whys[k]
				break
			}
		}
		f(s, first)
	}
}

// checkFirst holds that the call is refused for that reason, or, if that is OK, not at all.
func checkFirst(t *testing.T, w world, c ask, why api.Errno) {
	t.Helper()
	if a := asked(t, w, c); a.why != why {
		t.Fatalf("%s, on %+v, = %+v, not %d", c.name, w, a, why)
	}
}

// spoilt returns w with a book that is not right, another one for each k.
func spoilt(w world, k int) world {
	l := broken(w)
	return world{w.m, l[k%len(l)]}
}

// P14.3: each set of Place's errors at once
func TestPlaceErrors(t *testing.T) {
	whys := []api.Errno{
		api.ErrArg, api.ErrArg, api.ErrArg, api.ErrLoad, api.ErrPlace, api.ErrWindow, api.ErrOver, api.ErrTaken, api.ErrFull, api.ErrRoute,
	}
	few, many := yards(t, 2, 3), yards(t, 2, most)
	bad := spoilt(many, 90)
	// All but the last four are done, so that there is not much to be tried.
	few.b.Plan[0].Served, many.b.Plan[0].Served = 2, 2*most-4
	sets(whys, func(s set, first api.Errno) {
		w, o, budget := few, errand(1, 0, 0), 1+int(s)
		if s.has(9) {
			o.Size = 3
		}
		if s.has(8) {
			w = many
		}
		if s.has(7) {
			o.Id = 2
		}
		if s.has(6) {
			o.Drop.Service = longest + 1
		}
		if s.has(5) {
			o.Pick.To = -1
		}
		if s.has(4) {
			o.Drop.Place = 1
		}
		if s.has(3) {
			o.Size = 0
		}
		if s.has(2) {
			o.Id = beyond()[int(s)/8%len(beyond())]
		}
		if s.has(1) {
			budget = wrongBudgets()[int(s)/4%len(wrongBudgets())]
		}
		if s.has(0) && s.has(8) {
			w = bad
		} else if s.has(0) {
			w = spoilt(w, int(s)/2)
		}
		checkFirst(t, w, place(o, budget), first)
	})
}

// P14.3: each set of Drop's errors at once: no such order, one that is begun, and one without which the rest can't be done
func TestDropErrors(t *testing.T) {
	sets([]api.Errno{api.ErrArg, api.ErrNone, api.ErrServed, api.ErrGate}, func(s set, first api.Errno) {
		w, id := short(t), 5
		if !s.has(3) {
			w.m = w.m.Closed()
		}
		if s.has(2) {
			w.b.Plan[0].Served = 2
		}
		for k := range 30 {
			asked, of := w, id
			if s.has(1) {
				of = append(beyond(), 1, 4, 6)[k%11]
			}
			if s.has(0) {
				asked = spoilt(w, k)
			}
			checkFirst(t, asked, drop(of), first)
		}
	})
}

// P14.3: each set of Hire's errors at once
func TestHireErrors(t *testing.T) {
	whys := []api.Errno{
		api.ErrArg, api.ErrArg, api.ErrLoad, api.ErrPlace, api.ErrWindow, api.ErrGone, api.ErrTaken, api.ErrFull,
	}
	sets(whys, func(s set, first api.Errno) {
		w, d := yards(t, fleet-1, 2), idler(25, 0)
		if s.has(7) {
			w = yards(t, fleet, 2)
		}
		if s.has(6) {
			d.Id = 10 * (1 + int(s)%7)
		}
		d.Retired = s.has(5)
		if s.has(4) {
			d.From = d.To + 1
		}
		if s.has(3) {
			d.Home = -1
		}
		if s.has(2) {
			d.Room = biggest + 1
		}
		if s.has(1) {
			d.Id = beyond()[int(s)/4%len(beyond())]
		}
		if s.has(0) {
			w = spoilt(w, int(s)/2)
		}
		checkFirst(t, w, hire(d), first)
	})
}

// P14.3: each set of Retire's errors at once: a budget that can't be, no such driver, one that is retired already, one that
// can't do what remains, and one of whose orders there is no other place
func TestRetireErrors(t *testing.T) {
	sets([]api.Errno{api.ErrArg, api.ErrArg, api.ErrNone, api.ErrGone, api.ErrGate, api.ErrRoute}, func(s set, first api.Errno) {
		w := short(t)
		if s.has(5) {
			w.b.Drivers[1].Room = 1
			w.b.Drivers[0].Room, w.b.Orders[0].Size = 3, 2
		}
		if !s.has(4) {
			w.m = w.m.Closed()
		}
		w.b.Drivers[0].Retired = s.has(3)
		for k := range 30 {
			asked, id, budget := w, 4, 1+k
			if s.has(2) {
				id = append(beyond(), 1, 5, 7)[k%11]
			}
			if s.has(1) {
				budget = wrongBudgets()[k%len(wrongBudgets())]
			}
			if s.has(0) {
				asked = spoilt(w, k)
			}
			checkFirst(t, asked, retire(id, budget), first)
		}
	})
}

// P14.3: each set of Serve's errors at once, and of Mend's
func TestServeErrors(t *testing.T) {
	sets([]api.Errno{api.ErrArg, api.ErrNone, api.ErrArg}, func(s set, first api.Errno) {
		for k := range 90 {
			w, id, count := town(t), 10, 1+k%3
			if s.has(2) {
				count = []int{0, -1, 4, 5, 1 << 32, least, greatest}[k%7]
			}
			if s.has(1) {
				id = append(beyond(), 1, 5, 11)[k%11]
			}
			if s.has(0) {
				w = spoilt(w, k)
			}
			checkFirst(t, w, serve(id, count), first)
		}
	})
	sets([]api.Errno{api.ErrArg, api.ErrArg}, func(s set, first api.Errno) {
		for k := range 90 {
			w, budget := town(t), k
			if s.has(1) {
				budget = wrongBudgets()[k%len(wrongBudgets())]
			}
			if s.has(0) {
				w = spoilt(w, k)
			}
			checkFirst(t, w, mend(budget), first)
		}
	})
}

// edges holds the least and the greatest numbers there are, and those around each bound.
func edges() []int {
	return []int{
		least, least + 1, -1 << 32, -1, 0, 1, 2, 3, 4, 7, 10, fleet, most, crowd, biggest, budgets - 1, budgets, budgets + 1,
		highest - 1, highest, highest + 1, 1 << 32, greatest - 1, greatest,
	}
}

// R1: the least and the greatest numbers there are, in each place for a number
func TestEdges(t *testing.T) {
	w, o := example(t)
	that := world{w.m, book(w.b.Drivers, []api.Order{o}, drive(4, p(1), q(1)))}
	for _, w := range []world{w, that, lane(t), town(t), {m: w.m}} {
		for _, n := range edges() {
			for _, k := range edges() {
				asked(t, w, retire(n, k))
				asked(t, w, serve(n, k))
				asked(t, w, place(errand(n, 0, 1), k))
				for _, turn := range []func(o *api.Order){
					func(o *api.Order) { o.Size = n }, func(o *api.Order) { o.Pick.Place = n }, func(o *api.Order) { o.Drop.Place = n },
					func(o *api.Order) { o.Pick.Window = window(n, k) }, func(o *api.Order) { o.Drop.Window = window(n, k) },
					func(o *api.Order) { o.Pick.Service, o.Drop.Service = n, k },
				} {
					o := errand(5, 0, 1)
					turn(&o)
					asked(t, w, place(o, 20))
				}
				asked(t, w, hire(api.Driver{Id: n, Room: k}))
				asked(t, w, hire(api.Driver{Id: 1, Room: 1, Home: n, Window: window(0, k)}))
				asked(t, w, hire(api.Driver{Id: 1, Room: 1, Window: window(n, k)}))
			}
			asked(t, w, drop(n))
			asked(t, w, mend(n))
		}
	}
}

// R1: numbers beyond all bounds in a book, which makes it one that is not right
func TestBookEdges(t *testing.T) {
	for _, w := range []world{lane(t), town(t)} {
		for _, n := range edges() {
			for _, turn := range []func(b *planner.Book){
				func(b *planner.Book) { b.Drivers[0].Id = n }, func(b *planner.Book) { b.Drivers[0].Room = n },
				func(b *planner.Book) { b.Drivers[0].Home = n }, func(b *planner.Book) { b.Drivers[0].From = n },
				func(b *planner.Book) { b.Drivers[0].To = n }, func(b *planner.Book) { b.Orders[0].Id = n },
				func(b *planner.Book) { b.Orders[0].Size = n }, func(b *planner.Book) { b.Orders[0].Drop.Place = n },
				func(b *planner.Book) { b.Orders[0].Pick.Window = window(n, n) }, func(b *planner.Book) { b.Orders[0].Drop.To = n },
				func(b *planner.Book) { b.Orders[0].Pick.Service = n }, func(b *planner.Book) { b.Plan[0].Driver = n },
				func(b *planner.Book) { b.Plan[0].Served = n }, func(b *planner.Book) { b.Plan[0].Stops[1].Order = n },
			} {
				other := world{w.m, copied(w.b)}
				turn(&other.b)
				right(t, other)
				for _, c := range append(calls(), place(errand(n, 0, 0), 9), drop(n), hire(idler(1, n)), retire(n, 9), serve(n, 1), mend(n)) {
					asked(t, other, c)
				}
				asked(t, w, gate(other.b))
				asked(t, other, gate(w.b))
			}
		}
	}
}

// R1: lists far beyond the bounds
func TestLongLists(t *testing.T) {
	const far = 1 << 16
	m := made(t, 1, 0)
	many := make([]api.Stop, far)
	for i := range many {
		many[i] = p(i + 1)
	}
	for _, b := range []planner.Book{
		book(make([]api.Driver, far), nil), book(slices.Repeat([]api.Driver{idler(1, 0)}, far), nil, drive(1)),
		book(nil, make([]api.Order, far)), book(nil, slices.Repeat([]api.Order{errand(1, 0, 0)}, far)),
		book(nil, nil, make(api.Plan, far)...), book([]api.Driver{idler(1, 0)}, nil, drive(1, many...)),
		book([]api.Driver{idler(1, 0)}, nil, drive(1, make([]api.Stop, far)...)),
	} {
		if planner.Right(m, b) {
			t.Fatal("a book of long lists is right")
		}
		for _, c := range append(calls(), gate(planner.Book{})) {
			a := c.call(world{m, b})
			if !a.is(refused(api.ErrArg)) && !a.is(refused(api.ErrGate)) {
				t.Fatalf("of long lists, there is %d", a.why)
			}
		}
		if _, why := planner.Gate(m, b, planner.Book{}); why != api.OK && len(b.Plan) == 0 || why == api.OK && len(b.Plan) > 0 {
			t.Fatalf("from long lists, Gate leads to %d", why)
		}
	}
}
