package plan_test

import (
	"bytes"
	"math/rand"
	"slices"
	"testing"

	"dray/api"
	"dray/plan"
)

// mixer makes plans and bytes, the same ones in every run.
type mixer struct{ *rand.Rand }

func mixed(seed int64) mixer { return mixer{rand.New(rand.NewSource(seed))} }

// id returns a number that may be a driver's or an order's, often one at a bound or one that takes another byte.
func (x mixer) id(most int) int {
	switch x.Intn(6) {
	case 0:
		return 1 + x.Intn(2)
	case 1:
		return highest - x.Intn(2)
	case 2:
		return 62 + x.Intn(4)
	}
	return 1 + x.Intn(most)
}

// plan returns one that is right, with up to eight stops a route: of an order both, or one alone, anywhere.
func (x mixer) plan() api.Plan {
	var drivers []int
	for range x.Intn(fleet + 1) {
		drivers = append(drivers, x.id(300))
	}
	slices.Sort(drivers)
	var a api.Plan
	var seen []api.Stop
	for _, id := range slices.Compact(drivers) {
		r := api.Route{Driver: id}
		for range x.Intn(9) {
			s := api.Stop{Order: x.id(20), Drop: x.Intn(2) == 0}
			if !slices.Contains(seen, s) {
				seen = append(seen, s)
				r.Stops = append(r.Stops, s)
			}
		}
		r.Served = x.Intn(len(r.Stops) + 1)
		a = append(a, r)
	}
	return a
}

// raw returns a plan of few numbers that may be right or not.
func (x mixer) raw() api.Plan {
	var a api.Plan
	driver := x.Intn(2)
	for range x.Intn(4) {
		driver += x.Intn(5)
		r := api.Route{Driver: driver, Served: x.Intn(5) - 1}
		for range x.Intn(5) {
			r.Stops = append(r.Stops, api.Stop{Order: x.Intn(12), Drop: x.Intn(2) == 0})
		}
		a = append(a, r)
	}
	return a
}

// P9.1 to P9.5: plans that may be right or not, against the words of the chapter
func TestMixedRaw(t *testing.T) {
	x := mixed(1)
	right, wrong := 0, 0
	for range 20000 {
		a := x.raw()
		checkRight(t, a, rightThere(a))
		if rightThere(a) {
			right++
		} else {
			wrong++
		}
		id := x.Intn(12)
		want, found := findThere(a, id)
		checkFind(t, a, id, want, found)
		checkOrders(t, a, ordersThere(a)...)
		without(t, a, x.Perm(12)[:x.Intn(12)]...)
		with(t, a, id, api.Spot{Driver: 1 + x.Intn(5), Pick: x.Intn(4), Drop: x.Intn(5)})
		encode(t, a)
		decode(t, joined(pieces(a)))
	}
	if min(right, wrong) < 3000 {
		t.Errorf("%d are right and %d are not: too few", right, wrong)
	}
}

// P9.6: Decode undoes Encode.
func TestMixedBytes(t *testing.T) {
	x := mixed(2)
	for range 10000 {
		a := x.plan()
		checkRight(t, a, true)
		b := encode(t, a)
		if got, why := plan.Decode(b); why != api.OK || !same(got, a) {
			t.Fatalf("%v is written as % x and read as %v, %d", a, b, got, why)
		}
	}
}

// P9.6: Encode undoes Decode, for bytes of mixed plans that are changed, cut off, put together or strewn.
func TestMixedTurned(t *testing.T) {
	x := mixed(3)
	accepted := 0
	for range 40000 {
		b, other := encode(t, x.plan()), encode(t, x.plan())
		for range x.Intn(3) {
			b[x.Intn(len(b))] = byte(x.Intn(256))
		}
		switch x.Intn(8) {
		case 0:
			b = b[:x.Intn(len(b)+1)]
		case 1:
			b = append(b[:x.Intn(len(b)+1)], other[x.Intn(len(other)):]...)
		case 2:
			b = other
			x.Read(b[x.Intn(len(b)):])
		}
		before := slices.Clone(b)
		a, why := decode(t, b)
		if why != api.OK {
			continue
		}
		accepted++
		if got := plan.Encode(a); !bytes.Equal(got, before) {
			t.Fatalf("% x is read as %v and written as % x", before, a, got)
		}
	}
	if accepted < 5000 {
		t.Errorf("only %d were accepted", accepted)
	}
}

// P9.6: an order that is put in is found there, and taking it out again leaves the plan as it was, at all places.
func TestMixedPutIn(t *testing.T) {
	x := mixed(4)
	places := 0
	for range 800 {
		a := x.plan()
		id := 555
		if x.Intn(4) == 0 {
			id = x.id(20)
		}
		_, stands := plan.Find(a, id)
		for _, r := range a {
			for i := -1; i <= len(r.Stops)+1; i++ {
				for j := -1; j <= len(r.Stops)+1; j++ {
					next, ok := with(t, a, id, api.Spot{Driver: r.Driver, Pick: i, Drop: j, Cost: x.Int()})
					if ok != (!stands && r.Served <= i && i <= j && j <= len(r.Stops)) {
						t.Fatalf("With(%v, %d) at %d, %d of driver %d: %v", a, id, i, j, r.Driver, ok)
					}
					if !ok {
						continue
					}
					places++
					checkPutIn(t, a, next, id, api.Spot{Driver: r.Driver, Pick: i, Drop: j + 1})
				}
			}
		}
	}
	if places < 10000 {
		t.Errorf("only %d places", places)
	}
}

// checkPutIn holds that next is a with order at s, and nothing else.
func checkPutIn(t *testing.T, a, next api.Plan, order int, s api.Spot) {
	t.Helper()
	if !plan.Right(next) {
		t.Fatalf("%v is not right", next)
	}
	if got, ok := plan.Find(next, order); got != s || !ok {
		t.Fatalf("order %d of %v is found at %+v, %v, not at %+v", order, next, got, ok, s)
	}
	if got := plan.Without(next, order); !same(got, a) {
		t.Fatalf("%v without order %d is %v, not %v", next, order, got, a)
	}
	orders := append(plan.Orders(a), order)
	slices.Sort(orders)
	if got := plan.Orders(next); !slices.Equal(got, orders) {
		t.Fatalf("the orders of %v are %v, not %v", next, got, orders)
	}
}

// P9.3: what is taken out of mixed plans in one call is what is taken out order by order, in any order.
func TestMixedTakenOut(t *testing.T) {
	x := mixed(5)
	for range 5000 {
		a := x.plan()
		orders := plan.Orders(a)
		x.Shuffle(len(orders), func(i, j int) { orders[i], orders[j] = orders[j], orders[i] })
		orders = orders[:x.Intn(len(orders)+1)]
		all := without(t, a, orders...)
		one := a
		for _, id := range orders {
			one = without(t, one, id)
			if _, stands := plan.Find(one, id); stands != begun(a, id) {
				t.Fatalf("order %d of %v: %v is left", id, a, one)
			}
		}
		if !same(one, all) || !plan.Right(all) {
			t.Fatalf("%v without %v is %v, and one by one %v", a, orders, all, one)
		}
	}
}
