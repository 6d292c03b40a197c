package planner_test

import (
	"reflect"
	"slices"
	"testing"

	"dray/api"
	"dray/planner"
)

// roomy returns a copy of l with more in the room behind it.
func roomy[T any](l []T, more ...T) []T {
	return slices.Concat(l, more)[:len(l)]
}

// handed returns b with room behind each of its lists, in which there is what would count.
func handed(b planner.Book) planner.Book {
	b.Drivers = roomy(b.Drivers, idler(highest, 0), api.Driver{Id: least}, idler(7, 1))
	b.Orders = roomy(b.Orders, errand(highest, 0, 0), errand(7, 0, 0), api.Order{Id: greatest})
	b.Plan = roomy(b.Plan, drive(highest, p(60)), drive(least), drive(7, q(7)))
	for k := range b.Plan {
		b.Plan[k].Stops = roomy(b.Plan[k].Stops, q(7), p(99), p(7), q(99))
	}
	return b
}

// whole returns b, in memory of its own, with the room behind each list as a part of it.
func whole(b planner.Book) planner.Book {
	b.Drivers, b.Orders = slices.Clone(b.Drivers[:cap(b.Drivers)]), slices.Clone(b.Orders[:cap(b.Orders)])
	b.Plan = slices.Clone(b.Plan[:cap(b.Plan)])
	for k, r := range b.Plan {
		b.Plan[k].Stops = slices.Clone(r.Stops[:cap(r.Stops)])
	}
	return b
}

// scribble writes n all over b, with the room behind each list.
func scribble(b planner.Book, n int) {
	for i := range b.Drivers[:cap(b.Drivers)] {
		b.Drivers[:cap(b.Drivers)][i] = api.Driver{Id: n}
	}
	for i := range b.Orders[:cap(b.Orders)] {
		b.Orders[:cap(b.Orders)][i] = api.Order{Id: n}
	}
	b.Plan = b.Plan[:cap(b.Plan)]
	for k, r := range b.Plan {
		for i := range r.Stops[:cap(r.Stops)] {
			r.Stops[:cap(r.Stops)][i] = p(n)
		}
		b.Plan[k] = api.Route{Driver: n, Served: n, Stops: r.Stops}
	}
}

// scribbled reports whether n, and nothing else, stands all over b.
func scribbled(b planner.Book, n int) bool {
	other := whole(b)
	scribble(other, n)
	return reflect.DeepEqual(other, whole(b))
}

// changes returns calls of each function, of which some are in order for each of the worlds.
func changes() []ask {
	l := append(calls(), place(errand(1, 0, 0), 1), place(errand(41, 0, 0), 9), place(errand(5, 0, 1), 100), place(errand(7, 0, 0), 3),
		drop(1), drop(2), drop(5), drop(6), drop(9), drop(80), hire(idler(55, 0)), hire(idler(5, 0)), hire(idler(7, 0)),
		retire(4, 9), retire(6, 0), retire(10, 2), retire(20, 0), retire(30, 9), retire(40, 99), retire(80, 0),
		serve(10, 1), serve(10, 3), serve(40, 4), serve(4, 2), mend(0), mend(2), mend(30))
	return append(l, drop(3), place(errand(3, 0, 0), -1), retire(10, 0), serve(10, 0), mend(-1))
}

// forCalls hands on calls on worlds of all kinds, a Gate from the same book and from another one being among them.
func forCalls(t *testing.T, f func(w world, c ask)) {
	t.Helper()
	for _, w := range append(worlds(t), mended(t), pair(t, p(2), p(1), q(1), q(2)), yards(t, 3, 3)) {
		l := changes()
		for n, b := range broken(w) {
			if n%7 == 0 {
				f(world{w.m, b}, l[n%len(l)])
				f(world{w.m, b}, gate(w.b))
				f(w, gate(b))
			}
		}
		for _, c := range append(l, gate(w.b), gate(planner.Book{})) {
			f(w, c)
			f(world{b: w.b}, c)
		}
		f(world{m: w.m}, gate(w.b))
	}
}

// R2 and R5: what is handed in stays, with the room behind it, and that is not read, also when the answer is written all over.
func TestArgumentsStay(t *testing.T) {
	count := map[api.Errno]int{}
	forCalls(t, func(w world, c ask) {
		// What is wanted is not asked of the package, since that might have changed already what it is to leave as it is.
		want := c.there(world{w.m, copied(w.b)})
		want.b = copied(want.b)
		var times []int
		if w.m != nil {
			times = w.m.Times()
		}
		w.b = handed(w.b)
		before := whole(w.b)
		a := c.call(w)
		if !a.is(want) {
			t.Fatalf("%s, with room behind the lists of %+v, = %+v, not %+v", c.name, w, a, want)
		}
		scribble(a.b, -7)
		if now := whole(w.b); !reflect.DeepEqual(now, before) {
			t.Fatalf("%s leaves %+v, not %+v", c.name, now, before)
		}
		if w.m != nil && !slices.Equal(w.m.Times(), times) {
			t.Fatalf("%s leaves another map", c.name)
		}
		count[a.why]++
	})
	if count[api.OK] < 150 || len(count) < 9 {
		t.Errorf("%v are answered: too few", count)
	}
}

// R2: so it is with the old book of a Gate.
func TestOldStays(t *testing.T) {
	l := worlds(t)
	for _, w := range l {
		for _, other := range l {
			old := handed(other.b)
			before := whole(old)
			b, _ := planner.Gate(w.m, old, w.b)
			scribble(b, -7)
			if now := whole(old); !reflect.DeepEqual(now, before) {
				t.Fatalf("Gate leaves %+v, not %+v", now, before)
			}
			scribble(old, -7)
			if b, why := planner.Gate(w.m, before, w.b); why == api.OK && !same(b, w.b) {
				t.Fatalf("Gate of %+v = %+v", w.b, b)
			}
		}
	}
}

// R2: what is answered is new: no two lists of one answer, or of two, share memory, with the room behind them.
func TestListsAreNew(t *testing.T) {
	forCalls(t, func(w world, c ask) {
		a, b := c.call(w), c.call(w)
		if !a.is(b) {
			t.Fatalf("%s, on %+v, = %+v, and then %+v", c.name, w, a, b)
		}
		scribble(a.b, 3)
		scribble(b.b, 4)
		if !scribbled(a.b, 3) || !scribbled(b.b, 4) {
			t.Fatalf("two answers of %s, on %+v, share memory", c.name, w)
		}
		var lists [][]api.Stop
		for _, r := range a.b.Plan {
			lists = append(lists, r.Stops[:cap(r.Stops)])
		}
		for n, l := range lists {
			for i := range l {
				l[i] = q(n)
			}
		}
		for n, l := range lists {
			for _, s := range l {
				if s != q(n) {
					t.Fatalf("in an answer of %s, on %+v, routes %d and %d share memory", c.name, w, n, s.Order)
				}
			}
		}
	})
}

// R2: nothing is kept from call to call: the arguments may be written all over, and a later answer goes with what is asked.
func TestNothingIsKept(t *testing.T) {
	forCalls(t, func(w world, c ask) {
		want := c.there(world{w.m, copied(w.b)})
		want.b = copied(want.b)
		other := world{w.m, handed(w.b)}
		a := c.call(other)
		scribble(other.b, -5)
		if !a.is(want) {
			t.Fatalf("%s, on what is written over then, = %+v, not %+v", c.name, a, want)
		}
		if b := c.call(other); b.why == api.OK && len(other.b.Drivers)+len(other.b.Orders)+len(other.b.Plan) > 0 {
			t.Fatalf("%s, on %+v, = %+v", c.name, other, b)
		}
		if b := c.call(w); !b.is(want) {
			t.Fatalf("%s, on %+v, = %+v, not %+v", c.name, w, b, want)
		}
	})
}

// R5: what is needed and stands in the room behind a list only is not there.
func TestRoomIsNotRead(t *testing.T) {
	w := town(t)
	for n := range w.b.Drivers {
		b := copied(w.b)
		b.Drivers = w.b.Drivers[:n]
		checkRight(t, world{w.m, b}, false)
		b = copied(w.b)
		b.Plan = w.b.Plan[:n]
		checkRight(t, world{w.m, b}, false)
		for i := range w.b.Plan[n].Stops {
			b := copied(w.b)
			b.Plan[n].Stops = b.Plan[n].Stops[:i]
			checkRight(t, world{w.m, b}, false)
		}
	}
	for n := range w.b.Orders {
		b := copied(w.b)
		b.Orders = w.b.Orders[:n]
		checkRight(t, world{w.m, b}, false)
	}
	// A driver or an order that is in the room behind the list is neither taken nor known.
	b := takenOut(w.b, 9)
	b.Orders = roomy(b.Orders, errand(9, 3, 4), errand(10, 0, 0))
	b.Drivers = roomy(b.Drivers, idler(50, 0), idler(60, 0))
	b.Plan = roomy(b.Plan, drive(50), drive(60))
	w.b = b
	check(t, w, drop(9), api.ErrNone)
	check(t, w, retire(50, 9), api.ErrNone)
	check(t, w, serve(50, 1), api.ErrNone)
	for _, c := range []ask{place(errand(9, 3, 4), 9), hire(idler(50, 0)), hire(idler(60, 0))} {
		if a := asked(t, w, c); a.why != api.OK {
			t.Fatalf("%s, on %+v, = %+v", c.name, w, a)
		}
	}
}

// R4: lists of nothing are as good as none.
func TestNothing(t *testing.T) {
	m := town(t).m
	none := []world{{m: m}, {m, book([]api.Driver{}, []api.Order{}, api.Plan{}...)}, {m, handed(planner.Book{})}}
	for _, w := range none {
		checkRight(t, w, true)
		check(t, w, place(errand(1, 0, 0), 9), api.ErrRoute)
		check(t, w, drop(1), api.ErrNone)
		check(t, w, retire(1, 9), api.ErrNone)
		check(t, w, serve(1, 1), api.ErrNone)
		checkBook(t, w, mend(9), planner.Book{}, 0)
		for _, old := range none {
			checkBook(t, w, gate(old.b), planner.Book{}, 0)
		}
		checkBook(t, w, hire(idler(4, 0)), book([]api.Driver{idler(4, 0)}, nil, drive(4)), 0)
	}
}
