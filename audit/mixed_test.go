package audit_test

import (
	"math/rand"
	"slices"
	"testing"

	"dray/api"
	"dray/audit"
	"dray/cert"
	"dray/geo"
	"dray/plan"
	"dray/route"
	"dray/slack"
)

// mixer makes worlds, the same ones in every run.
type mixer struct{ *rand.Rand }

func mixed(seed int64) mixer { return mixer{rand.New(rand.NewSource(seed))} }

func (x mixer) roads(t *testing.T, n int) *geo.Map {
	t.Helper()
	times := make([]int, n*n)
	for i := range times {
		if i/n != i%n {
			times[i] = x.Intn(6)
		}
	}
	return made(t, n, times...)
}

func (x mixer) site(n int) api.Site {
	from := x.Intn(30)
	return site(x.Intn(n), from, from+x.Intn(60), x.Intn(4))
}

// idle returns a world that is right, with up to MaxDrivers drivers and some orders, both of strewn Ids, and a route
// without stops for most of the drivers.
func (x mixer) idle(t *testing.T) world {
	t.Helper()
	n := 1 + x.Intn(5)
	w := world{m: x.roads(t, n)}
	for _, id := range x.Perm(30)[:x.Intn(fleet+1)] {
		d := api.Driver{Id: id + 1, Room: 1 + x.Intn(8), Home: x.Intn(n), Retired: x.Intn(4) == 0}
		d.Window = window(x.Intn(12), 20+x.Intn(100))
		w.drivers = append(w.drivers, d)
		if x.Intn(6) > 0 {
			w.plan = append(w.plan, drive(d.Id))
		}
	}
	slices.SortFunc(w.plan, func(a, b api.Route) int { return a.Driver - b.Driver })
	for _, id := range x.Perm(40)[:x.Intn(15)] {
		w.orders = append(w.orders, api.Order{Id: id + 1, Size: 1 + x.Intn(4), Pick: x.site(n), Drop: x.site(n)})
	}
	return w
}

// right returns a world on whose routes nothing is wrong: the orders are put in where they fit, if that is found soon.
func (x mixer) right(t *testing.T) world {
	t.Helper()
	w := x.idle(t)
	for _, o := range w.orders {
		for range min(len(w.plan)*5, 20) {
			r := &w.plan[x.Intn(len(w.plan))]
			i := x.Intn(len(r.Stops) + 1)
			stops := slack.Put(r.Stops, o.Id, i, i+x.Intn(len(r.Stops)-i+1))
			if _, f := route.Drive(w.m, *w.driver(r.Driver), w.orders, stops...); f.Good() {
				r.Stops = stops
				break
			}
		}
	}
	for i := range w.plan {
		w.plan[i].Served = x.Intn(len(w.plan[i].Stops) + 1)
	}
	return w
}

// strewn returns a world whose orders' stops, most of them and some of no order, stand anywhere on its routes, some of
// which no driver has.
func (x mixer) strewn(t *testing.T) world {
	t.Helper()
	w := x.idle(t)
	if len(w.plan) == 0 || x.Intn(3) == 0 {
		w.plan = append(w.plan, drive(31+x.Intn(9)))
		w.plan = w.plan[max(len(w.plan)-fleet, 0):]
	}
	ids := []int{50, 51}
	for _, o := range w.orders {
		ids = append(ids, o.Id)
	}
	for _, id := range ids {
		for _, s := range []api.Stop{p(id), q(id)} {
			if x.Intn(4) > 0 {
				r := &w.plan[x.Intn(len(w.plan))]
				r.Stops = slices.Insert(r.Stops, x.Intn(len(r.Stops)+1), s)
			}
		}
	}
	return w
}

// spoiled returns a world with some changes to what is right; what goes into it may not go together.
func (x mixer) spoiled(t *testing.T) world {
	t.Helper()
	w := x.right(t)
	for n := 1 + x.Intn(3); n > 0; n-- {
		if len(w.plan) > 0 && x.Intn(2) == 0 {
			x.spoilRoute(w, x.Intn(len(w.plan)))
		} else {
			x.spoilWorld(&w)
		}
	}
	return w
}

// spoilRoute changes the stops of route k: two of them change places, one goes or goes to another route, or one comes in.
func (x mixer) spoilRoute(w world, k int) {
	r := &w.plan[k]
	r.Served = 0
	if len(r.Stops) == 0 || x.Intn(8) == 0 {
		r.Stops = slices.Insert(slices.Clone(r.Stops), x.Intn(len(r.Stops)+1), api.Stop{Order: 1 + x.Intn(45), Drop: x.Intn(2) == 0})
		return
	}
	i, j := x.Intn(len(r.Stops)), x.Intn(len(r.Stops))
	switch s := r.Stops[i]; x.Intn(4) {
	case 0, 1:
		r.Stops[i], r.Stops[j] = r.Stops[j], r.Stops[i]
	case 2:
		r.Stops = slices.Delete(slices.Clone(r.Stops), i, i+1)
	case 3:
		r.Stops = slices.Delete(slices.Clone(r.Stops), i, i+1)
		other := &w.plan[x.Intn(len(w.plan))]
		other.Stops = slices.Insert(slices.Clone(other.Stops), x.Intn(len(other.Stops)+1), s)
	}
}

// spoilWorld changes a driver or an order, or the number of a route.
func (x mixer) spoilWorld(w *world) {
	if len(w.drivers) > 0 {
		d := &w.drivers[x.Intn(len(w.drivers))]
		switch x.Intn(12) {
		case 0, 1:
			d.Room = max(d.Room-x.Intn(3), 1-x.Intn(2))
		case 2, 3:
			d.To = max(d.To-x.Intn(40), d.From)
		case 4:
			d.Id = 1 + x.Intn(60)
		case 5:
			d.Home = x.Intn(w.m.Places())
		case 6:
			d.From += x.Intn(5)
		}
	}
	if len(w.orders) > 0 {
		o := &w.orders[x.Intn(len(w.orders))]
		switch x.Intn(12) {
		case 0, 1:
			o.Size += x.Intn(3)
		case 2:
			o.Id = 1 + x.Intn(60)
		case 3:
			o.Drop.To = o.Drop.From
		case 4:
			o.Pick.Service += x.Intn(20)
		}
	}
	if len(w.plan) > 0 && x.Intn(12) == 0 {
		w.plan[x.Intn(len(w.plan))].Driver += x.Intn(3)
	}
}

// any returns a world of one of these kinds.
func (x mixer) any(t *testing.T) world {
	t.Helper()
	switch x.Intn(4) {
	case 0:
		return x.right(t)
	case 1:
		return x.spoiled(t)
	}
	return x.strewn(t)
}

// checkCounts holds that each error was told often enough for the test to mean something.
func checkCounts(t *testing.T, counts map[api.Errno]int, fewest int, errs ...api.Errno) {
	t.Helper()
	for _, why := range errs {
		if counts[why] < fewest {
			t.Errorf("%d of %v: too few", why, counts)
		}
	}
}

// P11.1 and P11.3: where nothing is wrong with the routes, nothing is told but the orders that stand nowhere.
func TestMixedRight(t *testing.T) {
	x := mixed(20)
	none, some := 0, 0
	for range 4000 {
		w := x.right(t)
		var missing []int
		for _, o := range w.orders {
			if _, ok := plan.Find(w.plan, o.Id); !ok {
				missing = append(missing, o.Id)
			}
		}
		check(t, w, misses(missing...)...)
		some += min(len(missing), 1)
		if len(missing) == 0 && len(w.orders) > 0 {
			none++
		}
	}
	if none < 300 || some < 300 {
		t.Errorf("%d plans are whole and %d are not: too few", none, some)
	}
}

// P11.1 and P11.3: plans of all kinds, held against the chapter's words and against cert.Make
func TestMixed(t *testing.T) {
	x := mixed(21)
	counts := map[api.Errno]int{}
	for range 20000 {
		l := audited(t, x.any(t))
		for _, y := range l {
			counts[y.Why]++
		}
		if len(l) == 0 {
			counts[api.OK]++
		}
	}
	checkCounts(t, counts, 1000, api.OK, api.ErrNone, api.ErrFirst, api.ErrLoad, api.ErrLate, api.ErrLack, api.ErrMiss)
	checkCounts(t, counts, 100, api.ErrArg)
}

// P11.3: the Fault that cert.Make finds is what is told first of its route, and nothing is told of those ahead.
func TestMixedAgainstMake(t *testing.T) {
	x := mixed(22)
	faults := map[api.Errno]int{}
	for range 8000 {
		w := x.any(t)
		l := audited(t, w)
		_, f := cert.Make(w.m, w.drivers, w.orders, w.plan)
		faults[f.Why]++
		switch {
		case f.Good():
			if slices.ContainsFunc(l, func(y api.Trouble) bool { return y.Driver != 0 || y.Why != api.ErrMiss }) {
				t.Fatalf("Make finds nothing, and Audit(%+v) = %v", w, l)
			}
		case f.Why == api.ErrArg:
			check(t, w, trouble(0, 0, api.ErrArg))
		case l[0].Why != f.Why || l[0].Driver != w.plan[f.At].Driver:
			t.Fatalf("Make finds %v, and Audit(%+v) = %v", f, w, l)
		}
	}
	checkCounts(t, faults, 50, api.OK, api.ErrArg, api.ErrNone, api.ErrFirst, api.ErrLoad, api.ErrLate, api.ErrLack)
}

// P11.3: what is told of a route is told of it where it is the only one, and with others in their places.
func TestMixedRoutesAlone(t *testing.T) {
	x := mixed(23)
	several := 0
	for range 3000 {
		w := x.any(t)
		if !w.together() {
			continue
		}
		var l []api.Trouble
		troubled := 0
		for k := range w.plan {
			one := w
			one.plan = w.plan[k : k+1]
			told := slices.DeleteFunc(audited(t, one), func(y api.Trouble) bool { return y.Why == api.ErrMiss })
			troubled += min(len(told), 1)
			l = append(l, told...)
			idle := copied(w)
			for j := range idle.plan {
				if j != k {
					idle.plan[j].Stops, idle.plan[j].Served = nil, 0
				}
			}
			of := slices.DeleteFunc(audited(t, idle), func(y api.Trouble) bool { return y.Driver != w.plan[k].Driver })
			if !slices.Equal(of, told) {
				t.Fatalf("of route %d of %+v, %v is told alone and %v beside others", k, w, told, of)
			}
		}
		whole := slices.DeleteFunc(audited(t, w), func(y api.Trouble) bool { return y.Why == api.ErrMiss })
		if !slices.Equal(whole, l) {
			t.Fatalf("of %+v, %v is told, and of its routes alone %v", w, whole, l)
		}
		if troubled > 1 {
			several++
		}
	}
	if several < 500 {
		t.Errorf("%d plans have several routes with Troubles: too few", several)
	}
}

// P11.1: the order in which drivers are listed has no influence, nor have those without a route; that of the orders has
// none but on the order in which those that stand nowhere are told.
func TestMixedLists(t *testing.T) {
	x := mixed(24)
	for range 3000 {
		w := x.any(t)
		if !w.together() {
			continue
		}
		want := slices.DeleteFunc(audited(t, w), func(y api.Trouble) bool { return y.Why == api.ErrMiss })
		other := copied(w)
		for i := len(other.drivers); i < fleet; i++ {
			other.drivers = append(other.drivers, api.Driver{Id: 1000 + i, Room: 1})
		}
		for i := len(other.orders); i < most; i++ {
			other.orders = append(other.orders, api.Order{Id: 1000 + i, Size: biggest, Drop: site(0, 0, 0, longest)})
		}
		x.Shuffle(fleet, func(i, j int) { other.drivers[i], other.drivers[j] = other.drivers[j], other.drivers[i] })
		x.Shuffle(most, func(i, j int) { other.orders[i], other.orders[j] = other.orders[j], other.orders[i] })
		for _, o := range other.orders {
			if !standsThere(w, o.Id) {
				want = append(want, trouble(0, o.Id, api.ErrMiss))
			}
		}
		check(t, other, want...)
	}
}

// P11.2 and P11.3: a plan is kept by itself, by what package plan makes of it and by what is made of that.
func TestMixedKept(t *testing.T) {
	x := mixed(25)
	placed := 0
	for range 4000 {
		w := x.right(t)
		checkKept(t, w.plan, w.plan, true)
		for _, o := range w.orders {
			less := plan.Without(w.plan, o.Id)
			checkKept(t, w.plan, less, true)
			checkKept(t, less, w.plan, true)
			for _, r := range less {
				next, ok := plan.With(less, o.Id, api.Spot{Driver: r.Driver, Pick: r.Served, Drop: len(r.Stops)})
				if ok {
					placed++
					checkKept(t, less, next, true)
					checkKept(t, w.plan, next, true)
				}
			}
		}
		for k, r := range w.plan {
			for _, n := range []int{r.Served - 1, r.Served + 1} {
				checkKept(t, w.plan, with(w.plan, k, func(r *api.Route) { r.Served = n }), false)
			}
		}
	}
	if placed < 10000 {
		t.Errorf("%d orders were put in: too few", placed)
	}
}

// P11.2 and P11.3: chains of plans, each of which changes the one ahead of it a little
func TestMixedKeptChains(t *testing.T) {
	x := mixed(26)
	changed := func(a api.Plan) api.Plan {
		w := world{plan: copied(world{plan: a}).plan}
		for k, r := range w.plan {
			if x.Intn(3) == 0 {
				x.spoilRoute(w, k)
				w.plan[k].Served = min(r.Served, len(w.plan[k].Stops))
			}
		}
		if x.Intn(4) == 0 {
			w.plan = append(w.plan, api.Route{Driver: 60 + x.Intn(40), Stops: []api.Stop{p(100 + x.Intn(9))}, Served: x.Intn(5) / 4})
		}
		return w.plan
	}
	chains := 0
	for range 20000 {
		first := x.right(t).plan
		second := changed(first)
		third := changed(second)
		ahead, behind := keptThere(first, second), keptThere(second, third)
		checkKept(t, first, second, ahead)
		checkKept(t, second, third, behind)
		whole := audit.Kept(first, third)
		checkKept(t, first, third, whole)
		if ahead && behind {
			chains++
			if !whole {
				t.Fatalf("%v, %v and %v are kept each by the next, but not the first by the last", first, second, third)
			}
		}
	}
	if chains < 2000 {
		t.Errorf("%d chains: too few", chains)
	}
}
