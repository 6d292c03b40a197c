package cert_test

import (
	"slices"
	"testing"

	"dray/api"
)

// rows is a world of n routes, all alike but for their numbers: of each driver 10, 20, .. two orders, one behind the
// other, the last of which is delivered in the last moment. An order of size 2 fills a driver.
func rows(t *testing.T, n int) world {
	t.Helper()
	w := world{m: made(t, 2, 0, 3, 4, 0)}
	for k := range n {
		id, a, b := 10*(k+1), 2*k+1, 2*k+2
		w.drivers = append(w.drivers, api.Driver{Id: id, Room: 2, Home: 0, Window: window(5, 25)})
		for i, o := range []int{a, b} {
			w.orders = append(w.orders, api.Order{Id: o, Size: 2 - i, Pick: site(1, 0, 99, 1), Drop: site(0, 0, 99, 2)})
		}
		w.plan = append(w.plan, drive(id, p(a), q(a), p(b), q(b)))
	}
	return w
}

// rank orders what is wrong with a route as P10.3 does: by the step (the driver, the list, a Visit, the end), by the Visit,
// and by what is asked of a Visit.
type rank struct{ step, visit, asked int }

const (
	driverStep = iota
	listStep
	visitStep
	endStep
)

const (
	orderAsked = iota
	pickupAsked
	loadAsked
	timeAsked
)

// spoil makes route k of rows wrong, or its list of a certificate that was right, or both.
type spoil struct {
	rank
	why api.Errno
	// made tells that the route is wrong, so that Make finds the same Fault.
	made bool
	turn func(w *world, c api.Cert, k int)
}

// at returns the site of visit i of route k.
func at(w *world, k, i int) *api.Site {
	o := &w.orders[2*k+i/2]
	if i%2 == 1 {
		return &o.Drop
	}
	return &o.Pick
}

// listSpoils returns those of the list, each of which is an ErrForm.
func listSpoils() []spoil {
	var l []spoil
	add := func(i int, turn func(visits []api.Visit) []api.Visit) {
		l = append(l, spoil{rank{listStep, i, 0}, api.ErrForm, false, func(w *world, c api.Cert, k int) {
			c[k] = turn(slices.Clone(c[k]))
		}})
	}
	add(0, func(visits []api.Visit) []api.Visit { return nil })
	add(0, func(visits []api.Visit) []api.Visit { return visits[:0] })
	add(0, func(visits []api.Visit) []api.Visit { return visits[:max(len(visits)-1, 0)] })
	add(0, func(visits []api.Visit) []api.Visit { return append(visits, visit(p(99), 25, 25, 25, 0)) })
	for i := range 4 {
		other := func(turn func(v *api.Visit)) {
			add(i, func(visits []api.Visit) []api.Visit {
				if i < len(visits) {
					turn(&visits[i])
				}
				return visits
			})
		}
		other(func(v *api.Visit) { v.Order = 99 })
		other(func(v *api.Visit) { v.Order = 0 })
		other(func(v *api.Visit) { v.Drop = !v.Drop })
	}
	return l
}

// visitSpoils returns those of the numbers of visit i, with everything behind it left as it was.
func visitSpoils(i int) []spoil {
	var l []spoil
	add := func(asked int, why api.Errno, turn func(v *api.Visit)) {
		l = append(l, spoil{rank{visitStep, i, asked}, why, false, func(w *world, c api.Cert, k int) {
			if i < len(c[k]) {
				turn(&c[k][i])
			}
		}})
	}
	for _, n := range []int{1, -1} {
		add(loadAsked, api.ErrLoad, func(v *api.Visit) { v.Load += n })
		add(timeAsked, api.ErrLate, func(v *api.Visit) { v.Arrive += n })
		add(timeAsked, api.ErrLate, func(v *api.Visit) { v.Begin += n })
		add(timeAsked, api.ErrLate, func(v *api.Visit) { v.Leave += n })
	}
	return l
}

// routeSpoils returns those of the route itself; where they can, the certificate goes with them.
func routeSpoils() []spoil {
	l := []spoil{
		{rank{driverStep, 0, 0}, api.ErrNone, true, func(w *world, c api.Cert, k int) { w.drivers[k].Id = 1000 + k }},
		{rank{endStep, 0, 0}, api.ErrLack, true, func(w *world, c api.Cert, k int) {
			last := len(w.plan[k].Stops) - 1
			w.plan[k].Stops = w.plan[k].Stops[:last]
			c[k] = c[k][:max(len(c[k])-1, 0)]
		}},
	}
	for i := range 4 {
		l = append(l, spoil{rank{visitStep, i, timeAsked}, api.ErrLate, true, func(w *world, c api.Cert, k int) {
			at(w, k, i).Window = window(0, []int{7, 12, 17, 22}[i])
		}}, spoil{rank{visitStep, i, timeAsked}, api.ErrLate, true, func(w *world, c api.Cert, k int) {
			w.drivers[k].To = []int{8, 14, 18, 24}[i]
		}})
	}
	for i := 0; i < 4; i += 2 {
		l = append(l, spoil{rank{visitStep, i, orderAsked}, api.ErrNone, true, func(w *world, c api.Cert, k int) {
			w.orders[2*k+i/2].Id = 1000 + 2*k + i/2
		}}, spoil{rank{visitStep, i, pickupAsked}, api.ErrFirst, true, func(w *world, c api.Cert, k int) {
			stops := w.plan[k].Stops
			stops[i], stops[i+1] = stops[i+1], stops[i]
			if i+1 < len(c[k]) {
				c[k][i], c[k][i+1] = c[k][i+1], c[k][i]
			}
		}}, spoil{rank{visitStep, i, loadAsked}, api.ErrLoad, true, func(w *world, c api.Cert, k int) {
			o := &w.orders[2*k+i/2]
			if i < len(c[k]) {
				c[k][i].Load += 3 - o.Size
			}
			o.Size = 3
		}})
	}
	return l
}

func spoils() []spoil {
	l := slices.Concat(routeSpoils(), listSpoils())
	for i := range 4 {
		l = append(l, visitSpoils(i)...)
	}
	return l
}

// ahead reports whether r is told ahead of other. Where a Visit is wrong in the list, which one it is makes no difference.
func (r rank) ahead(other rank) bool {
	if r.step != other.step || r.step != visitStep {
		return r.step < other.step
	}
	return r.visit < other.visit || r.visit == other.visit && r.asked < other.asked
}

// forPairs hands on all pairs of spoils that are not told alike on one route, the one that is told first of them ahead.
// Where a delivery is taken away at the end, what was wrong with it goes as well, so these are no pairs.
func forPairs(l []spoil, f func(first, second spoil)) {
	for _, first := range l {
		for _, second := range l {
			if first.ahead(second.rank) && (second.step != endStep || first.visit != 3) {
				f(first, second)
			}
		}
	}
}

// The certificate of rows is right.
func TestRows(t *testing.T) {
	for n := range fleet + 1 {
		c := api.Cert{}
		for k := range n {
			a, b := 2*k+1, 2*k+2
			c = append(c, []api.Visit{
				visit(p(a), 8, 8, 9, 2), visit(q(a), 13, 13, 15, 0), visit(p(b), 18, 18, 19, 1), visit(q(b), 23, 23, 25, 0),
			})
		}
		checkMade(t, rows(t, n), c)
	}
}

// P10.2 and P10.3: each Fault alone, on the first, a middle and the last route
func TestEachFault(t *testing.T) {
	for n := 1; n <= fleet; n++ {
		for k := range n {
			for _, s := range spoils() {
				w := rows(t, n)
				c := walked(w)
				s.turn(&w, c, k)
				checkFault(t, w, c, k, s.why)
				if s.made {
					checkNotMade(t, w, k, s.why)
				} else {
					checkMade(t, w, walked(w))
				}
			}
		}
	}
}

// P10.2 and P10.3: of Faults on two routes the first route's is told, whichever it is.
func TestFaultsOnTwoRoutes(t *testing.T) {
	for i := range 3 {
		for k := range i {
			for _, first := range spoils() {
				for _, second := range spoils() {
					w := rows(t, 3)
					c := walked(w)
					second.turn(&w, c, i)
					first.turn(&w, c, k)
					checkFault(t, w, c, k, first.why)
					if first.made {
						checkNotMade(t, w, k, first.why)
					} else if second.made {
						checkNotMade(t, w, i, second.why)
					}
				}
			}
		}
	}
}

// P10.3 and R3: of Faults on one route the first by the order of the chapter is told: that of the driver, that of the list,
// that of the first Visit, and of one Visit's the first asked.
func TestFaultsOnOneRoute(t *testing.T) {
	forPairs(spoils(), func(first, second spoil) {
		for k := range 2 {
			w := rows(t, 2)
			c := walked(w)
			first.turn(&w, c, k)
			second.turn(&w, c, k)
			checkFault(t, w, c, k, first.why)
		}
	})
}

// P10.2 and R3: so does Make, of Faults of the route itself.
func TestMakeFaultsOnOneRoute(t *testing.T) {
	forPairs(routeSpoils(), func(first, second spoil) {
		for k := range 2 {
			w := rows(t, 2)
			first.turn(&w, walked(w), k)
			second.turn(&w, walked(w), k)
			checkNotMade(t, w, k, first.why)
		}
	})
}
