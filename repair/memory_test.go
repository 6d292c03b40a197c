package repair_test

import (
	"reflect"
	"slices"
	"testing"

	"dray/api"
	"dray/repair"
)

// roomy returns a copy of l with more in the room behind it.
func roomy[T any](l []T, more ...T) []T {
	return slices.Concat(l, more)[:len(l)]
}

// handed returns w with room behind each of its lists, in which there is what would count.
func handed(w world) world {
	w.drivers = roomy(w.drivers, api.Driver{Id: 1, Room: 1}, api.Driver{Id: least})
	w.orders = roomy(w.orders, errand(highest, 0, 0), errand(7, 0, 0), api.Order{Id: greatest})
	w.plan = roomy(w.plan, drive(highest, p(60)), drive(least))
	for k := range w.plan {
		w.plan[k].Stops = roomy(w.plan[k].Stops, q(7), p(99), p(7), q(99))
	}
	return w
}

// whole returns w, in memory of its own, with the room behind each list as a part of it.
func whole(t *testing.T, w world) world {
	t.Helper()
	if w.m != nil {
		w.m = made(t, w.m.Places(), w.m.Times()...)
	}
	w.drivers, w.orders = slices.Clone(w.drivers[:cap(w.drivers)]), slices.Clone(w.orders[:cap(w.orders)])
	w.plan = slices.Clone(w.plan[:cap(w.plan)])
	for k, r := range w.plan {
		w.plan[k].Stops = slices.Clone(r.Stops[:cap(r.Stops)])
	}
	return w
}

// forWorlds hands on worlds of all kinds, with a budget each.
func forWorlds(t *testing.T, f func(w world, budget int)) {
	t.Helper()
	f(world{}, 1)
	f(world{m: made(t, 1, 0)}, 1)
	for _, w := range worlds(t) {
		for _, budget := range []int{-1, 0, 1, 3, 7, 1000} {
			f(w, budget)
		}
		w.m = nil
		f(w, 9)
	}
	for _, w := range faulty(t)[:20] {
		f(w, 9)
	}
	x := mixed(40)
	for range 700 {
		w := x.any(t)
		f(w, x.budget())
	}
}

// scribble writes all over a, with the room behind each list.
func scribble(a api.Plan) {
	a = a[:cap(a)]
	for k := range a {
		l := a[k].Stops[:cap(a[k].Stops)]
		for i := range l {
			l[i] = q(-7)
		}
		a[k] = api.Route{Driver: -7, Served: -7}
	}
}

// checkAsked holds that what is asked with room behind the lists is what was wanted, and that the arguments stay, also
// when the answer is written all over.
func checkAsked(t *testing.T, w world, want answer, ask func(w world) answer) {
	t.Helper()
	w = handed(w)
	before := whole(t, w)
	a := ask(w)
	if !a.is(want) {
		t.Fatalf("with room behind the lists, %+v leads to %v, not %v", w, a, want)
	}
	scribble(a.plan)
	if now := whole(t, w); !reflect.DeepEqual(now, before) {
		t.Fatalf("the arguments are now %+v, not %+v", now, before)
	}
}

// R2 and R5: what is handed in stays, with the room behind it, and that is not read; a plan that is returned is new.
func TestArgumentsStay(t *testing.T) {
	forWorlds(t, func(w world, budget int) {
		// What is wanted is not asked of the package, since that might have changed already what it is to leave as it is.
		checkAsked(t, w, passThere(w, budget, called), func(w world) answer { return passed(w, budget) })
		checkAsked(t, w, repairThere(w, budget, called), func(w world) answer { return mended(w, budget) })
		sum, ok := totalThere(w)
		checkAsked(t, w, answer{steps: sum}, func(w world) answer {
			got, there := repair.Total(w.m, w.drivers, w.orders, w.plan)
			if there != ok {
				t.Fatalf("with room behind the lists, Total(%+v) = %d, %v", w, got, there)
			}
			return answer{steps: got}
		})
	})
}

// R2: no two lists of one answer, or of two, share memory, with the room behind them.
func TestListsAreNew(t *testing.T) {
	forWorlds(t, func(w world, budget int) {
		plans := []api.Plan{passed(w, budget).plan, passed(w, budget).plan, mended(w, budget).plan, mended(w, budget).plan}
		if !same(plans[0], plans[1]) || !same(plans[2], plans[3]) {
			t.Fatalf("%+v leads to %v one time each", w, plans)
		}
		var lists [][]api.Stop
		for _, a := range plans {
			for _, r := range a {
				lists = append(lists, r.Stops[:cap(r.Stops)])
			}
		}
		for n, l := range lists {
			for i := range l {
				l[i] = p(-n)
			}
		}
		for n, l := range lists {
			for _, s := range l {
				if s != p(-n) {
					t.Fatalf("for %+v, lists %d and %d share memory", w, n, -s.Order)
				}
			}
		}
		for n, a := range plans {
			a = a[:cap(a)]
			for k := range a {
				a[k].Driver = -n
			}
		}
		for n, a := range plans {
			for _, r := range a[:cap(a)] {
				if r.Driver != -n {
					t.Fatalf("for %+v, plans %d and %d share memory", w, n, -r.Driver)
				}
			}
		}
	})
}

// R5: what is needed and stands in the room behind a list only is not there.
func TestRoomIsNotRead(t *testing.T) {
	w := town(t)
	for n := range w.drivers {
		if n < 4 {
			other := w
			other.plan = w.plan[:n]
			checkTotal(t, other, []int{0, 30, 70, 70}[n])
			pass(t, other, 100)
		}
		other := w
		other.drivers = w.drivers[:n]
		checkRefused(t, other)
		if n != 2 {
			other = w
			other.orders = roomy(slices.Delete(slices.Clone(w.orders), n, n+1), w.orders[n], w.orders[n])
			checkRefused(t, other)
		}
	}
	for k, r := range w.plan {
		for n := range r.Stops {
			other := copied(w)
			other.plan[k].Stops = other.plan[k].Stops[:n]
			if n > 0 {
				checkRefused(t, other)
				continue
			}
			checkTotal(t, other, 90-[]int{30, 40, 0, 20}[k])
			mend(t, other, 1000)
			other.plan[k].Served = 1
			checkRefused(t, other)
		}
	}
}

// R2: nothing is kept from call to call, so what is answered goes with what is asked.
func TestNothingIsKept(t *testing.T) {
	w := town(t)
	first := mend(t, w, 1000)
	asks := func() {
		t.Helper()
		total(t, w)
		pass(t, w, 50)
		mend(t, w, 1000)
	}
	for k := range w.plan {
		for i, s := range w.plan[k].Stops {
			w.plan[k].Stops[i] = p(98)
			asks()
			w.plan[k].Stops[i] = s
			w.plan[k].Served = i + 1
			asks()
			w.plan[k].Served = 0
		}
		w.plan[k].Driver += 100
		asks()
		w.plan[k].Driver -= 100
	}
	for i, d := range w.drivers {
		w.drivers[i].Home = (d.Home + 1) % 5
		asks()
		w.drivers[i].Retired = !d.Retired
		asks()
		w.drivers[i].To = 50
		asks()
		w.drivers[i] = d
	}
	for i, o := range w.orders {
		w.orders[i].Pick.Place = (o.Pick.Place + 1) % 5
		asks()
		w.orders[i].Id += 100
		asks()
		w.orders[i] = o
	}
	m := w.m
	w.m = made(t, 5, make([]int, 25)...)
	asks()
	w.m = m
	kept := answer{plan: copied(world{plan: first.plan}).plan, steps: first.steps, passes: first.passes}
	checkRepair(t, w, 1000, kept)
	// What was answered first stays when all others are written all over.
	scribble(mended(w, 1000).plan)
	if !first.is(kept) {
		t.Fatalf("the plan is now %v, not %v", first.plan, kept.plan)
	}
}
