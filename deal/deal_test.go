package deal_test

import (
	"math"
	"math/rand"
	"slices"
	"testing"

	"dray/api"
	"dray/deal"
	"dray/geo"
)

const (
	// These hold the bounds anew, as the document's table of limits says them.
	places  = 12
	longest = 1000000
	biggest = 1000
	highest = 1000000
	most    = 40

	greatest = math.MaxInt
	least    = math.MinInt
)

// change turns something that is right into what a case is about.
type change struct {
	name   string
	order  func(o *api.Order)
	driver func(d *api.Driver)
	want   api.Errno
}

func window(from, to int) api.Window { return api.Window{From: from, To: to} }

func site(place, from, to, service int) api.Site {
	return api.Site{Place: place, Window: window(from, to), Service: service}
}

func made(t *testing.T, n int, times ...int) *geo.Map {
	t.Helper()
	m, why := geo.New(n, times...)
	if m == nil || why != api.OK {
		t.Fatalf("New(%d, %v) = %v, %d", n, times, m, why)
	}
	return m
}

// pair is the map of the chapter's example runs, parcel their order and van their driver.
func pair(t *testing.T) *geo.Map {
	t.Helper()
	return made(t, 2, 0, 5, 7, 0)
}

func parcel() api.Order {
	return api.Order{Id: 1, Size: 3, Pick: site(0, 2, 9, 1), Drop: site(1, 0, 20, 2)}
}

func van() api.Driver {
	return api.Driver{Id: 4, Room: 3, Home: 1, Window: window(1, 30)}
}

// wrongWindows holds windows that are wrong in each of the ways there are.
var wrongWindows = []api.Window{
	{From: -1, To: 9}, {From: -1, To: -1}, {From: 5, To: 4}, {From: 0, To: -1}, {From: longest, To: longest - 1},
	{From: 0, To: longest + 1}, {From: longest + 1, To: longest + 1}, {From: longest + 1, To: longest},
	{From: least, To: greatest}, {From: greatest, To: least}, {From: least, To: least}, {From: greatest, To: greatest},
	{From: least, To: 9}, {From: 0, To: greatest}, {From: 1 << 32, To: 1<<32 + 5}, {From: 0, To: 1 << 32},
}

// rightWindows holds windows at all bounds.
var rightWindows = []api.Window{
	{From: 0, To: 0}, {From: 0, To: 1}, {From: 5, To: 5}, {From: 0, To: longest}, {From: 1, To: longest - 1},
	{From: longest - 1, To: longest}, {From: longest, To: longest},
}

// Numbers out of the bounds of each field; some of them would be within in 32, 16 or 8 bits.
var (
	wrongIds      = []int{0, -1, highest + 1, highest + 2, least, least + 1, greatest, 1 << 32, 1<<32 + 1, -1<<32 + 1}
	wrongSizes    = []int{0, -1, -3, biggest + 1, biggest + 2, 1<<16 + 3, 1<<32 + 3, least, least + 3, greatest}
	wrongServices = []int{-1, -2, longest + 1, longest + 2, 1 << 32, 1<<32 + 1, least, least + 1, greatest}
	// For the map of two places.
	wrongPlaces = []int{-1, -2, 2, 3, places, 1 << 8, 1 << 32, 1<<32 + 1, least, least + 1, greatest}
)

// wrongOrders returns every change by one field that the map of two places refuses, in the order of the errors.
func wrongOrders() []change {
	var l []change
	add := func(name string, want api.Errno, turn func(o *api.Order)) {
		l = append(l, change{name: name, order: turn, want: want})
	}
	for _, n := range wrongIds {
		add("Id", api.ErrArg, func(o *api.Order) { o.Id = n })
	}
	for _, n := range wrongSizes {
		add("Size", api.ErrLoad, func(o *api.Order) { o.Size = n })
	}
	for _, n := range wrongPlaces {
		add("Pick.Place", api.ErrPlace, func(o *api.Order) { o.Pick.Place = n })
		add("Drop.Place", api.ErrPlace, func(o *api.Order) { o.Drop.Place = n })
	}
	for _, w := range wrongWindows {
		add("Pick.Window", api.ErrWindow, func(o *api.Order) { o.Pick.Window = w })
		add("Drop.Window", api.ErrWindow, func(o *api.Order) { o.Drop.Window = w })
	}
	for _, n := range wrongServices {
		add("Pick.Service", api.ErrOver, func(o *api.Order) { o.Pick.Service = n })
		add("Drop.Service", api.ErrOver, func(o *api.Order) { o.Drop.Service = n })
	}
	return l
}

// wrongDrivers returns every change by one field that the map of two places refuses, in the order of the errors.
func wrongDrivers() []change {
	var l []change
	add := func(name string, want api.Errno, turn func(d *api.Driver)) {
		l = append(l, change{name: name, driver: turn, want: want})
	}
	for _, n := range wrongIds {
		add("Id", api.ErrArg, func(d *api.Driver) { d.Id = n })
	}
	for _, n := range wrongSizes {
		add("Room", api.ErrLoad, func(d *api.Driver) { d.Room = n })
	}
	for _, n := range wrongPlaces {
		add("Home", api.ErrPlace, func(d *api.Driver) { d.Home = n })
	}
	for _, w := range wrongWindows {
		add("Window", api.ErrWindow, func(d *api.Driver) { d.Window = w })
	}
	return l
}

func checkOrder(t *testing.T, m *geo.Map, o api.Order, want api.Errno) {
	t.Helper()
	if got := deal.Order(m, o); got != want {
		t.Errorf("Order(%v, %+v) = %d, not %d", m, o, got, want)
	}
}

func checkDriver(t *testing.T, m *geo.Map, d api.Driver, want api.Errno) {
	t.Helper()
	for _, d.Retired = range []bool{false, true} {
		if got := deal.Driver(m, d); got != want {
			t.Errorf("Driver(%v, %+v) = %d, not %d", m, d, got, want)
		}
	}
}

func checkKnown(t *testing.T, m *geo.Map, orders []api.Order, want bool) {
	t.Helper()
	if got := deal.Known(m, orders); got != want {
		t.Errorf("Known(%v, %d orders: %+v) = %v", m, len(orders), orders, got)
	}
}

func checkAlone(t *testing.T, m *geo.Map, d api.Driver, o api.Order, want int, wantOK bool) {
	t.Helper()
	for _, d.Retired = range []bool{false, true} {
		if got, ok := deal.Alone(m, d, o); got != want || ok != wantOK {
			t.Errorf("Alone(%v, %+v, %+v) = %d, %v, not %d, %v", m, d, o, got, ok, want, wantOK)
		}
	}
}

// The bounds are those of the document's table.
func TestBounds(t *testing.T) {
	if api.MaxPlaces != places || api.MaxTime != longest || api.MaxSize != biggest || api.MaxId != highest || api.MaxOrders != most {
		t.Error("package api has other bounds")
	}
}

// P6.1: orders that are right, at all bounds
func TestOrderRight(t *testing.T) {
	m := pair(t)
	checkOrder(t, m, parcel(), api.OK)
	for _, id := range []int{1, 2, highest - 1, highest} {
		o := parcel()
		o.Id = id
		checkOrder(t, m, o, api.OK)
	}
	for _, size := range []int{1, 2, biggest - 1, biggest} {
		o := parcel()
		o.Size = size
		checkOrder(t, m, o, api.OK)
	}
	for _, from := range []int{0, 1} {
		for _, to := range []int{0, 1} {
			o := parcel()
			o.Pick.Place, o.Drop.Place = from, to
			checkOrder(t, m, o, api.OK)
		}
	}
	for _, pick := range rightWindows {
		// A Drop may well close ahead of the Pick's opening: that is no matter of being right.
		for _, drop := range rightWindows {
			o := parcel()
			o.Pick.Window, o.Drop.Window = pick, drop
			checkOrder(t, m, o, api.OK)
		}
	}
	for _, pick := range []int{0, 1, longest - 1, longest} {
		for _, drop := range []int{0, 1, longest - 1, longest} {
			o := parcel()
			o.Pick.Service, o.Drop.Service = pick, drop
			checkOrder(t, m, o, api.OK)
		}
	}
}

// P6.1: one field at a time is wrong
func TestOrderRefuses(t *testing.T) {
	m := pair(t)
	for _, c := range wrongOrders() {
		o := parcel()
		c.order(&o)
		checkOrder(t, m, o, c.want)
	}
	checkOrder(t, m, api.Order{}, api.ErrArg)
	checkOrder(t, m, api.Order{Id: 1}, api.ErrLoad)
	// The zero Site is right: at place 0, at time 0, for no time.
	checkOrder(t, m, api.Order{Id: 1, Size: 1}, api.OK)
}

// P6.1 and R3: of every two errors the first one listed is answered, whichever fields they come from.
func TestOrderPairs(t *testing.T) {
	m := pair(t)
	wrong := wrongOrders()
	for i, first := range wrong {
		for _, second := range wrong[i:] {
			o := parcel()
			second.order(&o)
			first.order(&o)
			if got := deal.Order(m, o); got != first.want {
				t.Fatalf("Order(%+v), wrong in %s and %s, = %d, not %d", o, first.name, second.name, got, first.want)
			}
		}
	}
}

// P6.1 and R3: any of the fields are wrong at once.
func TestOrderSets(t *testing.T) {
	m := pair(t)
	var fields [][]change
	for _, c := range wrongOrders() {
		i := slices.IndexFunc(fields, func(l []change) bool { return l[0].name == c.name })
		if i < 0 {
			fields = append(fields, []change{c})
			continue
		}
		fields[i] = append(fields[i], c)
	}
	if len(fields) != 8 {
		t.Fatalf("%d fields", len(fields))
	}
	for set := range 1 << len(fields) {
		for variant := range len(wrongWindows) {
			o, want := parcel(), api.OK
			for i, l := range fields {
				if set>>i&1 == 0 {
					continue
				}
				c := l[variant%len(l)]
				c.order(&o)
				if want == api.OK {
					want = c.want
				}
			}
			checkOrder(t, m, o, want)
			checkOrder(t, nil, o, api.ErrArg)
		}
	}
}

// P6.1 and P6.2: no map is an ErrArg, ahead of all other errors.
func TestNoMap(t *testing.T) {
	checkOrder(t, nil, parcel(), api.ErrArg)
	checkOrder(t, nil, api.Order{}, api.ErrArg)
	for _, c := range wrongOrders() {
		o := parcel()
		c.order(&o)
		checkOrder(t, nil, o, api.ErrArg)
	}
	checkDriver(t, nil, van(), api.ErrArg)
	checkDriver(t, nil, api.Driver{}, api.ErrArg)
	for _, c := range wrongDrivers() {
		d := van()
		c.driver(&d)
		checkDriver(t, nil, d, api.ErrArg)
	}
	checkAlone(t, nil, van(), parcel(), 0, false)
	checkAlone(t, nil, api.Driver{}, api.Order{}, 0, false)
}

// P6.1 and P6.2: the places are those of the map, from 0 to the last one.
func TestPlaces(t *testing.T) {
	for n := 1; n <= places; n++ {
		m := made(t, n, make([]int, n*n)...)
		for place := -2; place <= places+2; place++ {
			want := api.ErrPlace
			if place >= 0 && place < n {
				want = api.OK
			}
			o := parcel()
			o.Pick.Place, o.Drop.Place = place, 0
			checkOrder(t, m, o, want)
			o.Pick.Place, o.Drop.Place = n-1, place
			checkOrder(t, m, o, want)
			d := van()
			d.Home = place
			checkDriver(t, m, d, want)
		}
	}
}

// P6.2: drivers that are right, at all bounds
func TestDriverRight(t *testing.T) {
	m := pair(t)
	checkDriver(t, m, van(), api.OK)
	for _, id := range []int{1, 2, highest - 1, highest} {
		d := van()
		d.Id = id
		checkDriver(t, m, d, api.OK)
	}
	for _, room := range []int{1, 2, biggest - 1, biggest} {
		d := van()
		d.Room = room
		checkDriver(t, m, d, api.OK)
	}
	for _, home := range []int{0, 1} {
		d := van()
		d.Home = home
		checkDriver(t, m, d, api.OK)
	}
	for _, w := range rightWindows {
		d := van()
		d.Window = w
		checkDriver(t, m, d, api.OK)
	}
}

// P6.2: one field at a time is wrong
func TestDriverRefuses(t *testing.T) {
	m := pair(t)
	for _, c := range wrongDrivers() {
		d := van()
		c.driver(&d)
		checkDriver(t, m, d, c.want)
	}
	checkDriver(t, m, api.Driver{}, api.ErrArg)
	checkDriver(t, m, api.Driver{Id: 1}, api.ErrLoad)
	checkDriver(t, m, api.Driver{Id: 1, Room: 1}, api.OK)
}

// P6.2 and R3: of every two errors the first one listed is answered, and of all at once too.
func TestDriverPairs(t *testing.T) {
	m := pair(t)
	wrong := wrongDrivers()
	for i, first := range wrong {
		for _, second := range wrong[i:] {
			d := van()
			second.driver(&d)
			first.driver(&d)
			checkDriver(t, m, d, first.want)
		}
	}
	checkDriver(t, m, api.Driver{Id: 0, Room: 0, Home: 2, Window: window(5, 4)}, api.ErrArg)
	checkDriver(t, m, api.Driver{Id: 1, Room: 0, Home: 2, Window: window(5, 4)}, api.ErrLoad)
	checkDriver(t, m, api.Driver{Id: 1, Room: 1, Home: 2, Window: window(5, 4)}, api.ErrPlace)
	checkDriver(t, m, api.Driver{Id: 1, Room: 1, Home: 1, Window: window(5, 4)}, api.ErrWindow)
	checkDriver(t, m, api.Driver{Id: 1, Room: 1, Home: 1, Window: window(5, 5)}, api.OK)
}

// parcels returns n orders that are right on the map of two places, with falling Ids, since they may stand in any order.
func parcels(n int) []api.Order {
	l := make([]api.Order, n)
	for i := range l {
		l[i] = parcel()
		l[i].Id = n - i
	}
	return l
}

// P6.3: the number of orders
func TestKnownCounts(t *testing.T) {
	m := pair(t)
	for n := range most + 4 {
		checkKnown(t, m, parcels(n), n <= most)
		checkKnown(t, nil, parcels(n), n == 0)
	}
	checkKnown(t, m, nil, true)
	checkKnown(t, m, []api.Order{}, true)
	checkKnown(t, nil, nil, true)
	checkKnown(t, nil, []api.Order{}, true)
	for _, n := range []int{2 * most, 1 << 8, 1 << 16} {
		if deal.Known(m, parcels(n)) {
			t.Errorf("%d orders are known", n)
		}
	}
	// Too many are too many, be they wrong or one and the same.
	checkKnown(t, m, make([]api.Order, most+1), false)
	checkKnown(t, nil, make([]api.Order, most+1), false)
	checkKnown(t, m, slices.Repeat([]api.Order{parcel()}, most+1), false)
	checkKnown(t, m, append(parcels(most), parcel()), false)
}

// P6.3: Ids at the bounds, and whatever order they stand in
func TestKnownIds(t *testing.T) {
	m := pair(t)
	for _, ids := range [][]int{
		{1}, {highest}, {1, highest}, {highest, 1}, {1, 2, 3}, {3, 2, 1}, {2, 3, 1}, {7, 900000, 8, 1 << 16, 1<<16 + 7},
	} {
		l := make([]api.Order, len(ids))
		for i, id := range ids {
			l[i] = parcel()
			l[i].Id = id
		}
		checkKnown(t, m, l, true)
		for _, id := range ids {
			again := parcel()
			again.Id = id
			checkKnown(t, m, append(slices.Clone(l), again), false)
			checkKnown(t, m, append([]api.Order{again}, l...), false)
		}
	}
	// Orders that differ in their Ids alone are different ones.
	l := slices.Repeat([]api.Order{parcel()}, 3)
	l[1].Id, l[2].Id = 2, 3
	checkKnown(t, m, l, true)
}

// P6.3: two orders of one Id, next to each other and far apart, at all positions of lists up to the longest one
func TestKnownTwice(t *testing.T) {
	m := pair(t)
	for _, n := range []int{2, 3, 4, 7, most - 1, most} {
		for i := range n {
			for j := range i {
				l := parcels(n)
				l[i].Id = l[j].Id
				checkKnown(t, m, l, false)
				// What else the two are makes no difference.
				l[i].Size, l[i].Pick.Place, l[j].Drop.Service = 5, 1, 0
				checkKnown(t, m, l, false)
				checkKnown(t, nil, l, false)
			}
		}
	}
}

// P6.3: one order that is not right, at the first position, in the middle and at the last
func TestKnownWrong(t *testing.T) {
	m := pair(t)
	wrong := wrongOrders()
	for _, n := range []int{1, 2, 3, most} {
		for _, c := range wrong {
			for _, i := range []int{0, n / 2, n - 1} {
				l := parcels(n)
				c.order(&l[i])
				checkKnown(t, m, l, false)
				checkKnown(t, nil, l, false)
			}
		}
		for i := range n {
			l := parcels(n)
			l[i].Drop.Service = -1
			checkKnown(t, m, l, false)
			l[i] = api.Order{}
			checkKnown(t, m, l, false)
		}
	}
}

// R2 and R5: the orders that are handed in stay, what lies behind them too, and that is not read.
func TestOrdersStay(t *testing.T) {
	m := pair(t)
	wrong := parcel()
	wrong.Id, wrong.Size = 2, 0
	// The fourth has the Id of the second, and what stands ahead of the list is not read either.
	whole := append([]api.Order{wrong}, parcels(2)...)
	whole = append(whole, whole[1], wrong, parcel())
	before := slices.Clone(whole)
	for end := 1; end <= len(whole); end++ {
		checkKnown(t, m, whole[1:end], end <= 3)
		checkKnown(t, nil, whole[1:end], end == 1)
		if !slices.Equal(whole, before) {
			t.Fatalf("the orders are now %+v, not %+v", whole, before)
		}
	}
	if times := m.Times(); !slices.Equal(times, []int{0, 5, 7, 0}) {
		t.Errorf("the times are now %v", times)
	}
}

// R2: nothing is kept: an order that changes behind a call is looked at anew.
func TestNothingKept(t *testing.T) {
	m := pair(t)
	l := parcels(3)
	for range 3 {
		checkKnown(t, m, l, true)
		l[1].Id = l[0].Id
		checkKnown(t, m, l, false)
		l[1].Id = 2
		checkAlone(t, m, van(), parcel(), 16, true)
		checkAlone(t, m, van(), api.Order{}, 0, false)
	}
}

// aloneCase is a change of the chapter's driver and order.
type aloneCase struct {
	turn func(d *api.Driver, o *api.Order)
	want int
	ok   bool
}

func checkAloneCases(t *testing.T, m *geo.Map, cases []aloneCase) {
	t.Helper()
	for i, c := range cases {
		d, o := van(), parcel()
		c.turn(&d, &o)
		if got, ok := deal.Alone(m, d, o); got != c.want || ok != c.ok {
			t.Errorf("case %d: Alone(%+v, %+v) = %d, %v, not %d, %v", i, d, o, got, ok, c.want, c.ok)
		}
		checkAlone(t, m, d, o, c.want, c.ok)
	}
}

// P6.4: the Size and the Room
func TestAloneSize(t *testing.T) {
	m := pair(t)
	for _, c := range []struct {
		size, room int
		ok         bool
	}{
		{1, 1, true}, {2, 1, false}, {1, 2, true}, {3, 3, true}, {4, 3, false}, {2, 3, true}, {3, 2, false},
		{biggest, biggest, true}, {biggest - 1, biggest, true}, {biggest, biggest - 1, false}, {1, biggest, true},
		{biggest, 1, false}, {0, 3, false}, {0, 0, false}, {-1, 3, false}, {biggest + 1, biggest, false},
		{biggest + 1, biggest + 1, false}, {3, biggest + 1, false}, {3, greatest, false}, {least, 3, false},
		{greatest, greatest, false}, {least, greatest, false},
	} {
		d, o := van(), parcel()
		d.Room, o.Size = c.room, c.size
		want := 0
		if c.ok {
			want = 16
		}
		checkAlone(t, m, d, o, want, c.ok)
	}
}

// P6.4: the arrival at Pick (8, as the chapter says) ahead of its Window, at both of its ends and one behind
func TestAlonePickWindow(t *testing.T) {
	pick := func(from, to int) func(d *api.Driver, o *api.Order) {
		return func(d *api.Driver, o *api.Order) { o.Pick.Window = window(from, to) }
	}
	checkAloneCases(t, pair(t), []aloneCase{
		{pick(0, 9), 16, true}, {pick(7, 9), 16, true}, {pick(8, 9), 16, true}, {pick(8, 8), 16, true},
		{pick(9, 9), 17, true}, {pick(9, 20), 17, true}, {pick(10, 20), 18, true}, {pick(13, 13), 21, true},
		{pick(14, 14), 22, true}, {pick(15, 15), 0, false}, {pick(0, 8), 16, true}, {pick(0, 7), 0, false},
		{pick(7, 7), 0, false}, {pick(2, 7), 0, false}, {pick(0, 0), 0, false}, {pick(0, longest), 16, true},
		{pick(longest, longest), 0, false}, {pick(9, 8), 0, false}, {pick(-1, 9), 0, false}, {pick(0, longest+1), 0, false},
	})
}

// P6.4: the arrival at Drop (14, as the chapter says) ahead of its Window, at both of its ends and one behind
func TestAloneDropWindow(t *testing.T) {
	drop := func(from, to int) func(d *api.Driver, o *api.Order) {
		return func(d *api.Driver, o *api.Order) { o.Drop.Window = window(from, to) }
	}
	checkAloneCases(t, pair(t), []aloneCase{
		{drop(0, 20), 16, true}, {drop(13, 20), 16, true}, {drop(14, 20), 16, true}, {drop(14, 14), 16, true},
		{drop(15, 15), 17, true}, {drop(15, 20), 17, true}, {drop(16, 20), 18, true}, {drop(28, 28), 30, true},
		{drop(29, 29), 0, false}, {drop(0, 14), 16, true}, {drop(0, 13), 0, false}, {drop(13, 13), 0, false},
		{drop(0, 0), 0, false}, {drop(0, longest), 16, true}, {drop(28, longest), 30, true}, {drop(29, longest), 0, false},
		{drop(longest, longest), 0, false}, {drop(15, 14), 0, false}, {drop(-1, 20), 0, false}, {drop(0, longest+1), 0, false},
	})
}

// P6.4: a service that ends at the end of the driver's Window, and one later, at Pick and at Drop
func TestAloneEnds(t *testing.T) {
	m := pair(t)
	checkAloneCases(t, m, []aloneCase{
		{func(d *api.Driver, o *api.Order) { d.To = 17 }, 16, true},
		{func(d *api.Driver, o *api.Order) { d.To = 16 }, 16, true},
		{func(d *api.Driver, o *api.Order) { d.To = 15 }, 0, false},
		// The end of the driver's Window lies between the beginning and the end of the service at Drop, or ahead of both.
		{func(d *api.Driver, o *api.Order) { d.To = 14 }, 0, false},
		{func(d *api.Driver, o *api.Order) { d.To = 13 }, 0, false},
		{func(d *api.Driver, o *api.Order) { d.To = 9 }, 0, false},
		{func(d *api.Driver, o *api.Order) { d.To = 8 }, 0, false},
		{func(d *api.Driver, o *api.Order) { d.To = 1 }, 0, false},
		{func(d *api.Driver, o *api.Order) { d.To = longest }, 16, true},
		{func(d *api.Driver, o *api.Order) { d.To = longest + 1 }, 0, false},
		{func(d *api.Driver, o *api.Order) { o.Drop.Service = 16 }, 30, true},
		{func(d *api.Driver, o *api.Order) { o.Drop.Service = 17 }, 0, false},
		{func(d *api.Driver, o *api.Order) { o.Drop.Service = 0 }, 14, true},
		{func(d *api.Driver, o *api.Order) { o.Drop.Service, d.To = 0, 14 }, 14, true},
		{func(d *api.Driver, o *api.Order) { o.Drop.Service, d.To = 0, 13 }, 0, false},
		{func(d *api.Driver, o *api.Order) { o.Pick.Service = 0 }, 15, true},
		{func(d *api.Driver, o *api.Order) { o.Drop.Service, d.To = longest, longest }, 0, false},
		{func(d *api.Driver, o *api.Order) { o.Drop.Service, d.To = longest-14, longest }, longest, true},
		{func(d *api.Driver, o *api.Order) { o.Drop.Service, d.To = longest-13, longest }, 0, false},
		{func(d *api.Driver, o *api.Order) { o.Pick.Service, o.Drop.To, d.To = longest, longest, longest }, 0, false},
	})
	// From Pick to Drop it takes no time, and neither does the service at Drop: what ends last is the service at Pick.
	near := made(t, 2, 0, 0, 7, 0)
	checkAloneCases(t, near, []aloneCase{
		{func(d *api.Driver, o *api.Order) { o.Pick.Service, o.Drop = 22, site(1, 0, longest, 0) }, 30, true},
		{func(d *api.Driver, o *api.Order) { o.Pick.Service, o.Drop = 23, site(1, 0, longest, 0) }, 0, false},
		{func(d *api.Driver, o *api.Order) { o.Pick.Service, o.Drop, d.To = 0, site(1, 0, 8, 0), 8 }, 8, true},
		{func(d *api.Driver, o *api.Order) { o.Pick.Service, o.Drop, d.To = 0, site(1, 0, 8, 0), 7 }, 0, false},
		{func(d *api.Driver, o *api.Order) { o.Pick.Service, o.Drop = 1, site(1, 0, 8, 0) }, 0, false},
	})
}

// P6.4: the times that the driver's own Window and Home make
func TestAloneDriver(t *testing.T) {
	checkAloneCases(t, pair(t), []aloneCase{
		{func(d *api.Driver, o *api.Order) { d.From = 0 }, 15, true},
		{func(d *api.Driver, o *api.Order) { d.From = 2 }, 17, true},
		{func(d *api.Driver, o *api.Order) { d.From = 3 }, 0, false},
		{func(d *api.Driver, o *api.Order) { d.From = -1 }, 0, false},
		{func(d *api.Driver, o *api.Order) { d.From = 31 }, 0, false},
		// At home at Pick, the driver waits there till the Window begins, or begins at once.
		{func(d *api.Driver, o *api.Order) { d.Home = 0 }, 10, true},
		{func(d *api.Driver, o *api.Order) { d.Home, d.From = 0, 2 }, 10, true},
		{func(d *api.Driver, o *api.Order) { d.Home, d.From = 0, 3 }, 11, true},
		{func(d *api.Driver, o *api.Order) { d.Home, d.From = 0, 9 }, 17, true},
		{func(d *api.Driver, o *api.Order) { d.Home, d.From = 0, 10 }, 0, false},
		// The other way round: at home at 1 with its Pick there, the Drop 7 further.
		{func(d *api.Driver, o *api.Order) { o.Pick.Place, o.Drop.Place = 1, 0 }, 12, true},
		{func(d *api.Driver, o *api.Order) { o.Pick.Place, o.Drop.Place, d.Home = 1, 0, 0 }, 16, true},
		// Both Sites at one place, with the driver at home there or not.
		{func(d *api.Driver, o *api.Order) { o.Pick.Place, o.Drop.Place = 1, 1 }, 5, true},
		{func(d *api.Driver, o *api.Order) { o.Drop.Place = 0 }, 11, true},
		{func(d *api.Driver, o *api.Order) { o.Drop.Place, d.Home = 0, 0 }, 5, true},
		{func(d *api.Driver, o *api.Order) { o.Pick.Place, o.Drop.Place, d.Home = 1, 1, 0 }, 9, true},
		{func(d *api.Driver, o *api.Order) { o.Pick.Place, o.Drop.Place, o.Drop.To = 1, 1, 3 }, 5, true},
		{func(d *api.Driver, o *api.Order) { o.Pick.Place, o.Drop.Place, o.Drop.To = 1, 1, 2 }, 0, false},
		{func(d *api.Driver, o *api.Order) { o.Pick.Place, o.Drop.Place, d.To = 1, 1, 5 }, 5, true},
		{func(d *api.Driver, o *api.Order) { o.Pick.Place, o.Drop.Place, d.To = 1, 1, 4 }, 0, false},
	})
}

// P6.4: which ways are driven, on a map whose times tell them apart
func TestAloneWays(t *testing.T) {
	m := made(t, 3, 0, 1, 10, 100, 0, 1000, 10000, 100000, 0)
	time := func(a, b int) int {
		n, ok := m.Time(a, b)
		if !ok {
			t.Fatalf("no time from %d to %d", a, b)
		}
		return n
	}
	for home := range 3 {
		for from := range 3 {
			for to := range 3 {
				d := api.Driver{Id: 1, Room: 1, Home: home, Window: window(0, longest)}
				o := api.Order{Id: 1, Size: 1, Pick: site(from, 0, longest, 0), Drop: site(to, 0, longest, 0)}
				checkAlone(t, m, d, o, time(home, from)+time(from, to), true)
			}
		}
	}
	// The way is the direct one, even where that through a third place is shorter, and the way home does not count.
	d := api.Driver{Id: 1, Room: 1, Home: 2, Window: window(0, 100000)}
	o := api.Order{Id: 1, Size: 1, Pick: site(2, 0, longest, 0), Drop: site(1, 0, longest, 0)}
	checkAlone(t, m, d, o, 100000, true)
	d.To--
	checkAlone(t, m, d, o, 0, false)
}

// P6.4: at the greatest times, where the sums are beyond MaxTime
func TestAloneLongest(t *testing.T) {
	m := made(t, 2, 0, longest, longest, 0)
	all := func(place, service int) api.Site { return site(place, 0, longest, service) }
	for i, c := range []struct {
		home       int
		w          api.Window
		pick, drop api.Site
		want       int
		ok         bool
	}{
		{0, window(0, longest), all(1, 0), all(1, 0), longest, true},
		{0, window(0, longest), all(0, 0), all(1, 0), longest, true},
		{0, window(0, longest), all(1, 0), all(1, 1), 0, false},
		{0, window(1, longest), all(1, 0), all(1, 0), 0, false},
		{0, window(0, longest-1), all(1, 0), all(1, 0), 0, false},
		{0, window(0, longest), all(1, 1), all(1, 0), 0, false},
		{0, window(0, longest), all(1, 0), all(0, 0), 0, false},
		{0, window(0, longest), all(0, longest), all(0, 0), longest, true},
		{0, window(0, longest), all(0, 0), all(0, longest), longest, true},
		{0, window(0, longest), all(0, 1), all(0, longest), 0, false},
		{0, window(0, longest), all(0, longest), all(0, 1), 0, false},
		{0, window(0, longest), all(0, longest), all(0, longest), 0, false},
		{0, window(1, longest), all(0, longest), all(0, 0), 0, false},
		{0, window(0, longest-1), all(0, longest), all(0, 0), 0, false},
		{0, window(longest, longest), all(0, 0), all(0, 0), longest, true},
		{0, window(longest, longest), all(0, 0), all(0, 1), 0, false},
		{0, window(longest, longest), all(1, longest), all(0, longest), 0, false},
		{0, window(0, longest), site(0, longest, longest, 0), site(0, longest, longest, 0), longest, true},
		{0, window(0, longest), site(0, longest, longest, longest), site(0, longest, longest, longest), 0, false},
		{0, window(0, 0), all(0, 0), all(0, 0), 0, true},
		{0, window(0, 0), site(0, 0, 0, 0), site(0, 0, 0, 0), 0, true},
		{0, window(0, 0), site(0, 1, 1, 0), site(0, 0, 9, 0), 0, false},
		{0, window(0, 0), all(0, 1), all(0, 0), 0, false},
	} {
		d := api.Driver{Id: 1, Room: 1, Home: c.home, Window: c.w}
		o := api.Order{Id: 1, Size: 1, Pick: c.pick, Drop: c.drop}
		if got, ok := deal.Alone(m, d, o); got != c.want || ok != c.ok {
			t.Errorf("case %d: %d, %v, not %d, %v", i, got, ok, c.want, c.ok)
		}
		checkAlone(t, m, d, o, c.want, c.ok)
	}
}

// P6.4: a driver or an order that is not right
func TestAloneRefuses(t *testing.T) {
	m := pair(t)
	for _, c := range wrongOrders() {
		o := parcel()
		c.order(&o)
		checkAlone(t, m, van(), o, 0, false)
	}
	for _, c := range wrongDrivers() {
		d := van()
		c.driver(&d)
		checkAlone(t, m, d, parcel(), 0, false)
		for _, e := range wrongOrders() {
			o := parcel()
			e.order(&o)
			checkAlone(t, m, d, o, 0, false)
		}
	}
	checkAlone(t, m, api.Driver{}, parcel(), 0, false)
	checkAlone(t, m, van(), api.Order{}, 0, false)
	checkAlone(t, m, api.Driver{}, api.Order{}, 0, false)
}

// wantAlone is P6.4 by trying all beginnings of the two services: the earliest end among those that keep to all bounds.
// It is for narrow Windows and for what is right.
func wantAlone(m *geo.Map, d api.Driver, o api.Order) (int, bool) {
	if o.Size > d.Room {
		return 0, false
	}
	there, _ := m.Time(d.Home, o.Pick.Place)
	across, _ := m.Time(o.Pick.Place, o.Drop.Place)
	best, found := 0, false
	for pick := o.Pick.From; pick <= o.Pick.To; pick++ {
		if pick < d.From+there || pick+o.Pick.Service > d.To {
			continue
		}
		for drop := o.Drop.From; drop <= o.Drop.To; drop++ {
			end := drop + o.Drop.Service
			if drop < pick+o.Pick.Service+across || end > d.To {
				continue
			}
			if !found || end < best {
				best, found = end, true
			}
		}
	}
	return best, found
}

// forMixed calls f with maps, drivers and orders that are right, the same in every run; some orders can be served, some
// can't.
func forMixed(t *testing.T, f func(m *geo.Map, d api.Driver, o api.Order)) {
	t.Helper()
	source := rand.New(rand.NewSource(6))
	narrow := func(bound int) api.Window {
		a, b := source.Intn(bound), source.Intn(bound)
		return window(min(a, b), max(a, b))
	}
	for range 20000 {
		n := 1 + source.Intn(4)
		times := make([]int, n*n)
		for i := range times {
			if i/n != i%n {
				times[i] = source.Intn(6)
			}
		}
		room := 1 + source.Intn(biggest)
		d := api.Driver{Id: 1 + source.Intn(highest), Room: room, Home: source.Intn(n), Window: narrow(30)}
		o := api.Order{Id: 1 + source.Intn(highest), Size: min(biggest, 1+source.Intn(room+1))}
		for _, s := range []*api.Site{&o.Pick, &o.Drop} {
			*s = api.Site{Place: source.Intn(n), Window: narrow(25), Service: source.Intn(5)}
		}
		f(made(t, n, times...), d, o)
	}
}

// P6.4, held against all schedules
func TestAloneMixed(t *testing.T) {
	served, refused := 0, 0
	forMixed(t, func(m *geo.Map, d api.Driver, o api.Order) {
		want, wantOK := wantAlone(m, d, o)
		checkAlone(t, m, d, o, want, wantOK)
		if wantOK {
			served++
		} else {
			refused++
		}
	})
	if served < 2000 || refused < 2000 {
		t.Errorf("%d orders were served, %d refused: too few", served, refused)
	}
}

// P6.5: more Room, or a later end of the driver's Window, changes nothing.
func TestAloneWithMore(t *testing.T) {
	forMixed(t, func(m *geo.Map, d api.Driver, o api.Order) {
		end, ok := deal.Alone(m, d, o)
		if !ok {
			return
		}
		for _, room := range []int{d.Room + 1, d.Room + 7, biggest} {
			more := d
			more.Room = min(room, biggest)
			checkAlone(t, m, more, o, end, true)
		}
		for _, to := range []int{d.To + 1, d.To + 7, longest} {
			more := d
			more.To = to
			checkAlone(t, m, more, o, end, true)
			more.Room = biggest
			checkAlone(t, m, more, o, end, true)
		}
	})
}

// P6.5: a driver whose Window begins later is not done earlier, and serves nothing that an earlier one can't.
func TestAloneLater(t *testing.T) {
	forMixed(t, func(m *geo.Map, d api.Driver, o api.Order) {
		before, could := deal.Alone(m, d, o)
		for later := d; later.From < later.To; {
			later.From++
			end, ok := deal.Alone(m, later, o)
			if ok && (!could || end < before) {
				t.Errorf("Alone(%+v, %+v) = %d, true, and %d, %v a unit of time earlier", later, o, end, before, could)
			}
			before, could = end, ok
		}
	})
}

// Retired has no influence, nor have the Ids.
func TestAloneIds(t *testing.T) {
	m := pair(t)
	for _, driver := range []int{1, 4, highest} {
		for _, order := range []int{1, 4, highest} {
			d, o := van(), parcel()
			d.Id, o.Id = driver, order
			checkAlone(t, m, d, o, 16, true)
		}
	}
}

// The chapter's example runs.
func TestExampleRuns(t *testing.T) {
	m := pair(t)
	turned := func(turn func(o *api.Order)) api.Order {
		o := parcel()
		turn(&o)
		return o
	}
	checkOrder(t, m, parcel(), api.OK)
	checkOrder(t, m, turned(func(o *api.Order) { o.Size = 0 }), api.ErrLoad)
	checkOrder(t, m, turned(func(o *api.Order) { o.Pick.Place = 2 }), api.ErrPlace)
	checkOrder(t, m, turned(func(o *api.Order) { o.Drop.Window = window(5, 4) }), api.ErrWindow)
	checkOrder(t, m, turned(func(o *api.Order) { o.Pick.Service = -1 }), api.ErrOver)
	checkOrder(t, m, turned(func(o *api.Order) { o.Drop.Service = -1 }), api.ErrOver)
	checkAloneCases(t, m, []aloneCase{
		{func(d *api.Driver, o *api.Order) {}, 16, true},
		{func(d *api.Driver, o *api.Order) { d.Room = 2 }, 0, false},
		{func(d *api.Driver, o *api.Order) { d.To = 15 }, 0, false},
		{func(d *api.Driver, o *api.Order) { d.From = 3 }, 0, false},
	})
	checkDriver(t, m, van(), api.OK)
	checkKnown(t, m, []api.Order{parcel()}, true)
}

// The document's first example of the whole: the pickup begins at 8 and the delivery at 14.
func TestFirstExample(t *testing.T) {
	m := pair(t)
	o := parcel()
	o.Pick.Window, o.Drop.Window = window(8, 8), window(14, 14)
	checkAlone(t, m, van(), o, 14+o.Drop.Service, true)
	o.Pick.Window = window(2, 7)
	checkAlone(t, m, van(), o, 0, false)
}

// The chapter's ways: a driver and a site have the fields of their Windows.
func TestEmbeddedWindows(t *testing.T) {
	m := pair(t)
	d, o := van(), parcel()
	d.From, d.To = o.Drop.From, o.Drop.To
	if d.Window != o.Drop.Window {
		t.Fatalf("%v is not %v", d.Window, o.Drop.Window)
	}
	checkAlone(t, m, d, o, 15, true)
	d.From = d.To + 1
	checkDriver(t, m, d, api.ErrWindow)
	o.Pick.From = o.Pick.To + 1
	checkOrder(t, m, o, api.ErrWindow)
}
