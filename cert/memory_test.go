package cert_test

import (
	"reflect"
	"slices"
	"testing"

	"dray/api"
	"dray/cert"
)

// roomy returns a copy of l with more in the room behind it.
func roomy[T any](l []T, more ...T) []T {
	return slices.Concat(l, more)[:len(l)]
}

// handed returns w and c with room behind each of their lists, in which there is what would count.
func handed(w world, c api.Cert) (world, api.Cert) {
	w.drivers = roomy(w.drivers, api.Driver{Id: 1, Room: 1}, api.Driver{Id: least})
	w.orders = roomy(w.orders, api.Order{Id: 1, Size: 1}, api.Order{Id: greatest})
	w.plan = roomy(w.plan, drive(highest, p(60)), drive(least))
	for k := range w.plan {
		w.plan[k].Stops = roomy(w.plan[k].Stops, p(99), q(99))
	}
	c = roomy(c, []api.Visit{{}}, nil)
	for k := range c {
		c[k] = roomy(c[k], visit(p(99), 1, 1, 1, 1), api.Visit{})
	}
	return w, c
}

// whole returns w and c, in memory of their own, with the room behind each list as a part of it.
func whole(t *testing.T, w world, c api.Cert) (world, api.Cert) {
	t.Helper()
	w.m = made(t, w.m.Places(), w.m.Times()...)
	w.drivers, w.orders = slices.Clone(w.drivers[:cap(w.drivers)]), slices.Clone(w.orders[:cap(w.orders)])
	w.plan, c = slices.Clone(w.plan[:cap(w.plan)]), slices.Clone(c[:cap(c)])
	for k, r := range w.plan {
		w.plan[k].Stops = slices.Clone(r.Stops[:cap(r.Stops)])
	}
	for k, l := range c {
		c[k] = slices.Clone(l[:cap(l)])
	}
	return w, c
}

// forKept hands on worlds and certificates of all kinds: right and wrong in each way, mixed, and none at all.
func forKept(t *testing.T, f func(w world, c api.Cert)) {
	t.Helper()
	f(world{m: made(t, 1, 0)}, nil)
	w, right := town(t)
	f(w, right)
	f(w, right[1:])
	for _, a := range wrongPlans(t)[:40] {
		w.plan = a
		f(w, right)
	}
	for _, s := range spoils() {
		w := rows(t, 3)
		c := walked(w)
		s.turn(&w, c, 1)
		f(w, c)
	}
	x := mixed(16)
	for range 1000 {
		w := x.right(t)
		f(w, walked(w))
		f(w, x.tampered(w, walked(w)))
		w = x.spoiled(t)
		f(w, walked(w))
	}
}

// R2 and R5: what is handed in stays, with the room behind it, and that is not read.
func TestArgumentsStay(t *testing.T) {
	forKept(t, func(w world, c api.Cert) {
		want, wantMade := build(t, w)
		wantChecked := check(t, w, c)
		w, c = handed(w, c)
		wBefore, cBefore := whole(t, w, c)
		got, f := cert.Make(w.m, w.drivers, w.orders, w.plan)
		if f != wantMade || !same(got, want) {
			t.Fatalf("with room behind the lists, Make(%+v) = %v, %v, not %v, %v", w, got, f, want, wantMade)
		}
		if f := cert.Check(w.m, w.drivers, w.orders, w.plan, c); f != wantChecked {
			t.Fatalf("with room behind the lists, Check(%+v, %v) = %v, not %v", w, c, f, wantChecked)
		}
		scribble(got)
		if wNow, cNow := whole(t, w, c); !reflect.DeepEqual(wNow, wBefore) || !reflect.DeepEqual(cNow, cBefore) {
			t.Fatalf("the arguments are now %+v, %v, not %+v, %v", wNow, cNow, wBefore, cBefore)
		}
	})
}

// R5: what is needed and stands in the room behind a list only is not there.
func TestRoomIsNotRead(t *testing.T) {
	w, right := town(t)
	for k, r := range w.plan {
		less := w
		i := slices.IndexFunc(w.drivers, func(d api.Driver) bool { return d.Id == r.Driver })
		d := w.drivers[i]
		less.drivers = roomy(slices.Delete(slices.Clone(w.drivers), i, i+1), d, d)
		checkNotMade(t, less, k, api.ErrNone)
		for _, s := range r.Stops {
			i := slices.IndexFunc(w.orders, func(o api.Order) bool { return o.Id == s.Order })
			o := w.orders[i]
			less := w
			less.orders = roomy(slices.Delete(slices.Clone(w.orders), i, i+1), o, o)
			checkNotMade(t, less, k, api.ErrNone)
		}
		for i := range r.Stops {
			less := w
			less.plan = slices.Clone(w.plan)
			less.plan[k].Stops = r.Stops[:i]
			checkFault(t, less, right, k, api.ErrForm)
			c := copied(right)
			c[k] = c[k][:i]
			checkFault(t, w, c, k, api.ErrForm)
			if _, f := build(t, less); f.Good() {
				checkFault(t, less, c, 0, api.OK)
			} else {
				checkFault(t, less, c, k, api.ErrLack)
			}
		}
		less = w
		less.plan = w.plan[:k]
		checkFault(t, less, right, 0, api.ErrForm)
		checkFault(t, w, right[:k], 0, api.ErrForm)
		checkFault(t, less, right[:k], 0, api.OK)
	}
}

// scribble writes all over c, with the room behind each list.
func scribble(c api.Cert) {
	c = c[:cap(c)]
	for k := range c {
		l := c[k][:cap(c[k])]
		for i := range l {
			l[i] = visit(q(-7), -7, -7, -7, -7)
		}
		c[k] = []api.Visit{{}}
	}
}

// R2: no two lists of one answer, or of two, share memory, with the room behind them.
func TestListsAreNew(t *testing.T) {
	forKept(t, func(w world, c api.Cert) {
		first, f := cert.Make(w.m, w.drivers, w.orders, w.plan)
		second, g := cert.Make(w.m, w.drivers, w.orders, w.plan)
		if f != g || !same(first, second) {
			t.Fatalf("Make(%+v) = %v, %v and then %v, %v", w, first, f, second, g)
		}
		lists := slices.Concat(first, second)
		for n, l := range lists {
			l = l[:cap(l)]
			for i := range l {
				l[i].Load = -n
			}
		}
		for n, l := range lists {
			for _, v := range l[:cap(l)] {
				if v.Load != -n {
					t.Fatalf("lists %d and %d of Make(%+v) share memory", n, -v.Load, w)
				}
			}
		}
		kept := slices.Clone(second)
		scribble(first)
		if !same(second, kept) {
			t.Fatalf("the lists of two answers of Make(%+v) stand in one list", w)
		}
	})
}

// R2: certificates stay when what they were made for changes, and nothing is kept from call to call.
func TestNothingIsKept(t *testing.T) {
	w, want := town(t)
	c, _ := build(t, w)
	for k := range w.plan {
		for i, s := range w.plan[k].Stops {
			w.plan[k].Stops[i] = p(99)
			checkNotMade(t, w, k, api.ErrNone)
			w.plan[k].Stops[i] = s
		}
	}
	for i, d := range w.drivers {
		w.drivers[i].Room = 0
		checkNotTogether(t, w)
		w.drivers[i] = d
		w.drivers[i].Home = (d.Home + 1) % 3
		build(t, w)
		w.drivers[i] = d
	}
	for i, o := range w.orders {
		w.orders[i].Pick.Service++
		build(t, w)
		check(t, w, want)
		w.orders[i] = o
	}
	checkMade(t, w, want)
	if !same(c, want) {
		t.Fatalf("the certificate is now %v, not %v", c, want)
	}
	scribble(c)
	checkMade(t, w, want)
	// A certificate that was right once is not right for another plan, nor does a wrong one spoil the next call.
	w.plan[1].Stops[0] = p(70)
	checkFault(t, w, want, 1, api.ErrForm)
	w.plan[1].Stops[0] = p(20)
	checkFault(t, w, want, 0, api.OK)
	want[3][0].Load++
	checkFault(t, w, want, 3, api.ErrLoad)
	want[3][0].Load--
	checkFault(t, w, want, 0, api.OK)
}

// R1: nothing but zero values, nothing, and lists far beyond the bounds
func TestAnything(t *testing.T) {
	const far = 1 << 16
	m := made(t, 1, 0)
	d := api.Driver{Id: 1, Room: 1}
	o := api.Order{Id: 1, Size: 1, Pick: site(0, 0, 0, 0), Drop: site(0, 0, 0, 0)}
	for _, w := range []world{
		{m: m, drivers: []api.Driver{{}}}, {m: m, orders: []api.Order{{}}}, {m: m, plan: api.Plan{{}}},
		{m: m, drivers: make([]api.Driver, fleet)}, {m: m, orders: make([]api.Order, most)}, {m: m, plan: make(api.Plan, fleet)},
	} {
		checkNotTogether(t, w)
	}
	for _, w := range []world{
		{m: m, drivers: make([]api.Driver, far)}, {m: m, drivers: slices.Repeat([]api.Driver{d}, far)},
		{m: m, orders: make([]api.Order, far)}, {m: m, orders: slices.Repeat([]api.Order{o}, far)},
		{m: m, plan: make(api.Plan, far)}, {m: m, plan: api.Plan{drive(1, make([]api.Stop, far)...)}},
	} {
		for _, c := range []api.Cert{nil, make(api.Cert, far), {make([]api.Visit, far)}} {
			if f := cert.Check(w.m, w.drivers, w.orders, w.plan, c); f != (api.Fault{Why: api.ErrArg}) {
				t.Fatalf("Check of long lists = %v", f)
			}
		}
		if c, f := cert.Make(w.m, w.drivers, w.orders, w.plan); f != (api.Fault{Why: api.ErrArg}) || len(c) > 0 {
			t.Fatalf("Make of long lists = %v, %v", c, f)
		}
	}
	w := world{m: m, drivers: []api.Driver{d}, orders: []api.Order{o}, plan: api.Plan{drive(1, p(1), q(1))}}
	checkFault(t, w, make(api.Cert, far), 0, api.ErrForm)
	checkFault(t, w, api.Cert{make([]api.Visit, far)}, 0, api.ErrForm)
	checkMade(t, w, walked(w))
}
