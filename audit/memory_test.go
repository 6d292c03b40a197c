package audit_test

import (
	"reflect"
	"slices"
	"testing"

	"dray/api"
	"dray/audit"
)

// roomy returns a copy of l with more in the room behind it.
func roomy[T any](l []T, more ...T) []T {
	return slices.Concat(l, more)[:len(l)]
}

// handed returns w with room behind each of its lists, in which there is what would count.
func handed(w world) world {
	w.drivers = roomy(w.drivers, api.Driver{Id: 1, Room: 1}, api.Driver{Id: least})
	w.orders = roomy(w.orders, api.Order{Id: 1, Size: 1}, api.Order{Id: greatest})
	w.plan = handedPlan(w.plan)
	return w
}

func handedPlan(a api.Plan) api.Plan {
	a = roomy(a, drive(highest, p(60)), drive(least))
	for k := range a {
		a[k].Stops = roomy(a[k].Stops, p(99), q(99))
	}
	return a
}

// whole returns w, in memory of its own, with the room behind each list as a part of it.
func whole(t *testing.T, w world) world {
	t.Helper()
	w.m = made(t, w.m.Places(), w.m.Times()...)
	w.drivers, w.orders = slices.Clone(w.drivers[:cap(w.drivers)]), slices.Clone(w.orders[:cap(w.orders)])
	w.plan = wholePlan(w.plan)
	return w
}

func wholePlan(a api.Plan) api.Plan {
	a = slices.Clone(a[:cap(a)])
	for k, r := range a {
		a[k].Stops = slices.Clone(r.Stops[:cap(r.Stops)])
	}
	return a
}

// scribble writes all over l, with the room behind it.
func scribble(l []api.Trouble) {
	l = l[:cap(l)]
	for i := range l {
		l[i] = trouble(-7, -7, -7)
	}
}

// forWorlds hands on worlds of all kinds: with nothing in them, with nothing wrong, wrong in each way and mixed.
func forWorlds(t *testing.T, f func(w world)) {
	t.Helper()
	f(world{m: made(t, 1, 0)})
	for _, w := range append(worlds(t), loose(t), bad(t), yard(t, fleet, most), yard(t, 1, most)) {
		f(w)
		w.drivers = nil
		f(w)
	}
	for _, a := range wrongPlans(t)[:40] {
		w := town(t)
		w.plan = a
		f(w)
	}
	for _, s := range spoils() {
		w, _ := spoiled(t, stopSpoils()[0], s, s)
		f(w)
	}
	x := mixed(27)
	for range 2000 {
		f(x.any(t))
	}
}

// R2 and R5: what is handed in stays, with the room behind it, and that is not read.
func TestArgumentsStay(t *testing.T) {
	forWorlds(t, func(w world) {
		// Audit is not called ahead of this, since it might have changed already what it is to leave as it is.
		want := auditedThere(w)
		w = handed(w)
		before := whole(t, w)
		l := audit.Audit(w.m, w.drivers, w.orders, w.plan)
		if !slices.Equal(l, want) {
			t.Fatalf("with room behind the lists, Audit(%+v) = %v, not %v", w, l, want)
		}
		scribble(l)
		if now := whole(t, w); !reflect.DeepEqual(now, before) {
			t.Fatalf("the arguments are now %+v, not %+v", now, before)
		}
	})
}

// R2 and R5: so it is with the plans that Kept is asked of.
func TestKeptArgumentsStay(t *testing.T) {
	last := api.Plan(nil)
	forWorlds(t, func(w world) {
		for _, pair := range [][2]api.Plan{{w.plan, w.plan}, {last, w.plan}, {w.plan, last}} {
			want := keptThere(pair[0], pair[1])
			old, next := handedPlan(pair[0]), handedPlan(pair[1])
			oldBefore, nextBefore := wholePlan(old), wholePlan(next)
			checkKept(t, old, next, want)
			if !reflect.DeepEqual(wholePlan(old), oldBefore) || !reflect.DeepEqual(wholePlan(next), nextBefore) {
				t.Fatalf("the arguments are now %v, %v, not %v, %v", wholePlan(old), wholePlan(next), oldBefore, nextBefore)
			}
		}
		last = w.plan
	})
}

// R5: what is needed and stands in the room behind a list only is not there.
func TestRoomIsNotRead(t *testing.T) {
	w := town(t)
	for k, r := range w.plan {
		less := w
		i := slices.IndexFunc(w.drivers, func(d api.Driver) bool { return d.Id == r.Driver })
		d := w.drivers[i]
		less.drivers = roomy(slices.Delete(slices.Clone(w.drivers), i, i+1), d, d)
		check(t, less, trouble(d.Id, 0, api.ErrNone), trouble(0, 70, api.ErrMiss))
		for i, s := range r.Stops {
			less := copied(w)
			less.orders = slices.DeleteFunc(less.orders, func(o api.Order) bool { return o.Id != s.Order })
			less.plan = api.Plan{drive(r.Driver, roomy([]api.Stop{p(s.Order)}, q(s.Order))...)}
			l := audited(t, less)
			if want := trouble(r.Driver, s.Order, api.ErrLack); len(l) == 0 || l[len(l)-1] != want {
				t.Fatalf("Audit(%+v) = %v, not %v at last", less, l, want)
			}
			less.orders = roomy(less.orders[:0], less.orders...)
			check(t, less, trouble(r.Driver, s.Order, api.ErrNone))
			less = copied(w)
			less.plan[k].Stops = less.plan[k].Stops[:i]
			audited(t, less)
		}
		less = w
		less.plan = w.plan[:k]
		audited(t, less)
		// What is done may stand behind the plan, or behind the stops of its route, in either of the two.
		a := with(w.plan, k, func(r *api.Route) { r.Served = len(r.Stops) })
		checkKept(t, a[:k], a, len(r.Stops) == 0)
		checkKept(t, a, a[:k], false)
		short := with(a, k, func(r *api.Route) { r.Stops = r.Stops[:len(r.Stops)/2] })
		checkKept(t, a, short, len(r.Stops) == 0)
		checkKept(t, short, a, len(r.Stops) == 0)
	}
}

// R2: no two answers share memory, with the room behind them.
func TestAnswersAreNew(t *testing.T) {
	forWorlds(t, func(w world) {
		first := audited(t, w)
		kept := slices.Clone(first)
		second := audit.Audit(w.m, w.drivers, w.orders, w.plan)
		if !slices.Equal(second, kept) {
			t.Fatalf("Audit(%+v) = %v and then %v", w, kept, second)
		}
		scribble(first)
		if !slices.Equal(second, kept) {
			t.Fatalf("two answers of Audit(%+v) share memory", w)
		}
		scribble(second)
		if third := audited(t, w); !slices.Equal(third, kept) {
			t.Fatalf("Audit(%+v) = %v and then %v", w, kept, third)
		}
	})
}

// R2: answers stay when what they were told of changes, and nothing is kept from call to call.
func TestNothingIsKept(t *testing.T) {
	w := bad(t)
	want := slices.Concat(append(ofBad(), misses(60))...)
	l := audited(t, w)
	audits := func() {
		t.Helper()
		audited(t, w)
		if !slices.Equal(l, want) {
			t.Fatalf("what was told is now %v, not %v", l, want)
		}
	}
	for k := range w.plan {
		for i, s := range w.plan[k].Stops {
			w.plan[k].Stops[i] = p(98)
			audits()
			w.plan[k].Stops[i] = s
			audits()
		}
		w.plan[k].Driver += 100
		audits()
		w.plan[k].Driver -= 100
	}
	for i, d := range w.drivers {
		w.drivers[i].Room = 0
		audits()
		w.drivers[i] = d
		w.drivers[i].Home = (d.Home + 1) % 3
		audits()
		w.drivers[i].Window = window(d.From+9, d.From+9)
		audits()
		w.drivers[i] = d
	}
	for i, o := range w.orders {
		w.orders[i].Pick.Service++
		audits()
		w.orders[i].Id += 100
		audits()
		w.orders[i] = o
	}
	check(t, w, want...)
}

// R1: nothing but zero values, nothing, and lists far beyond the bounds
func TestAnything(t *testing.T) {
	const far = 1 << 16
	m := made(t, 1, 0)
	d := api.Driver{Id: 1, Room: 1}
	o := api.Order{Id: 1, Size: 1, Pick: site(0, 0, 0, 0), Drop: site(0, 0, 0, 0)}
	for _, w := range []world{
		{m: m, drivers: []api.Driver{{}}}, {m: m, orders: []api.Order{{}}}, {m: m, plan: api.Plan{{}}},
		{m: m, drivers: make([]api.Driver, fleet)}, {m: m, orders: make([]api.Order, most)}, {m: m, plan: make(api.Plan, fleet)},
	} {
		checkNotTogether(t, w)
	}
	many := make([]api.Stop, far)
	for i := range many {
		many[i] = p(i + 1)
	}
	plans := []api.Plan{make(api.Plan, far), {drive(1, make([]api.Stop, far)...)}, {drive(1, many...)}}
	worlds := []world{
		{m: m, drivers: make([]api.Driver, far)}, {m: m, drivers: slices.Repeat([]api.Driver{d}, far)},
		{m: m, orders: make([]api.Order, far)}, {m: m, orders: slices.Repeat([]api.Order{o}, far)},
	}
	for _, a := range plans {
		worlds = append(worlds, world{m: m, plan: a}, world{m: m, drivers: []api.Driver{d}, orders: []api.Order{o}, plan: a})
		for _, other := range append(plans, nil, api.Plan{drive(1)}) {
			if audit.Kept(a, other) || audit.Kept(other, a) {
				t.Fatal("Kept holds of a plan that is too long")
			}
		}
	}
	for _, w := range worlds {
		if l := audit.Audit(w.m, w.drivers, w.orders, w.plan); !slices.Equal(l, []api.Trouble{trouble(0, 0, api.ErrArg)}) {
			t.Fatalf("Audit of long lists = %v", l)
		}
	}
	w := world{m: m, drivers: []api.Driver{d}, orders: []api.Order{o}, plan: api.Plan{drive(1, p(1), q(1))}}
	check(t, w)
}
