package geo_test

import (
	"math"
	"math/rand"
	"slices"
	"testing"

	"dray/api"
	"dray/geo"
)

const (
	most     = api.MaxPlaces
	longest  = api.MaxTime
	greatest = math.MaxInt
	least    = math.MinInt
)

// uniform returns the times of n places that are all equally far from one another.
func uniform(n, time int) []int {
	times := make([]int, n*n)
	for a := range n {
		for b := range n {
			if a != b {
				times[a*n+b] = time
			}
		}
	}
	return times
}

// with returns the times with another one at i.
func with(times []int, i, time int) []int {
	l := slices.Clone(times)
	l[i] = time
	return l
}

// chained returns the times of places that are far from one another, but for one step from each of the order to the next.
func chained(order []int, step, far int) []int {
	n := len(order)
	times := uniform(n, far)
	for i := range n - 1 {
		times[order[i]*n+order[i+1]] = step
	}
	return times
}

func made(t *testing.T, n int, times []int) *geo.Map {
	t.Helper()
	m, why := geo.New(n, times...)
	if m == nil || why != api.OK {
		t.Fatalf("New(%d, %v) = %v, %d", n, times, m, why)
	}
	return m
}

// check holds everything that a map tells against its times.
func check(t *testing.T, m *geo.Map, n int, times []int) {
	t.Helper()
	if m == nil {
		t.Fatalf("no map of %d places", n)
	}
	if got := m.Places(); got != n {
		t.Errorf("Places of %v = %d, not %d", times, got, n)
	}
	if got := m.Times(); !slices.Equal(got, times) {
		t.Errorf("Times = %v, not %v", got, times)
	}
	for a := -2; a < n+2; a++ {
		for b := -2; b < n+2; b++ {
			want, wantOK := 0, a >= 0 && a < n && b >= 0 && b < n
			if wantOK {
				want = times[a*n+b]
			}
			if got, ok := m.Time(a, b); got != want || ok != wantOK {
				t.Errorf("Time(%d, %d) of %v = %d, %v, not %d, %v", a, b, times, got, ok, want, wantOK)
			}
		}
	}
}

// bySteps returns the shortest times by the count of a path's steps: each round lets all paths be one step longer.
func bySteps(n int, times []int) []int {
	shortest := slices.Clone(times)
	for range n {
		longer := slices.Clone(shortest)
		for a := range n {
			for b := range n {
				for last := range n {
					longer[a*n+b] = min(longer[a*n+b], shortest[a*n+last]+times[last*n+b])
				}
			}
		}
		shortest = longer
	}
	return shortest
}

// byPaths returns the shortest times by walking every path that visits no place twice.
func byPaths(n int, times []int) []int {
	shortest := slices.Clone(times)
	for a := range n {
		been := make([]bool, n)
		var walk func(at, total int)
		walk = func(at, total int) {
			shortest[a*n+at] = min(shortest[a*n+at], total)
			been[at] = true
			for next := range n {
				if !been[next] {
					walk(next, total+times[at*n+next])
				}
			}
			been[at] = false
		}
		walk(a, 0)
	}
	return shortest
}

// wantEven is P4.3's triangle inequality, word by word.
func wantEven(n int, times []int) bool {
	for a := range n {
		for b := range n {
			for c := range n {
				if times[a*n+c] > times[a*n+b]+times[b*n+c] {
					return false
				}
			}
		}
	}
	return true
}

// forAll calls f with the times of every map of n places whose times are among those given.
func forAll(n int, among []int, f func(times []int)) {
	times := make([]int, n*n)
	var fill func(i int)
	fill = func(i int) {
		if i == n*n {
			f(slices.Clone(times))
			return
		}
		if i/n == i%n {
			fill(i + 1)
			return
		}
		for _, time := range among {
			times[i] = time
			fill(i + 1)
		}
	}
	fill(0)
}

// forOrders calls f with every order of n places.
func forOrders(n int, f func(order []int)) {
	order := make([]int, n)
	for i := range n {
		order[i] = i
	}
	var swap func(i int)
	swap = func(i int) {
		if i == n {
			f(slices.Clone(order))
			return
		}
		for j := i; j < n; j++ {
			order[i], order[j] = order[j], order[i]
			swap(i + 1)
			order[i], order[j] = order[j], order[i]
		}
	}
	swap(0)
}

// forMixed calls f with maps of all sizes, the same in every run, some of times that are often equal, some of far times.
func forMixed(f func(n int, times []int)) {
	source := rand.New(rand.NewSource(4))
	for round := range 1200 {
		n := 1 + round%most
		bound := []int{2, 4, 20, 1000, longest + 1}[source.Intn(5)]
		times := make([]int, n*n)
		for i := range times {
			if i/n != i%n {
				times[i] = source.Intn(bound)
			}
		}
		f(n, times)
	}
}

// P4.1: the error that applies, and the first of several.
func TestNewRefuses(t *testing.T) {
	zeros := func(count int) []int { return make([]int, count) }
	for i, c := range []struct {
		n     int
		times []int
		want  api.Errno
	}{
		{0, nil, api.ErrArg},
		{0, zeros(1), api.ErrArg},
		// The square of n may fit the count of the times all the same.
		{-1, zeros(1), api.ErrArg},
		{-2, zeros(4), api.ErrArg},
		{-most, zeros(most * most), api.ErrArg},
		{most + 1, nil, api.ErrArg},
		{most + 1, zeros((most + 1) * (most + 1)), api.ErrArg},
		{most + 2, zeros((most + 2) * (most + 2)), api.ErrArg},
		// The squares of these wrap round to 0.
		{1 << 32, nil, api.ErrArg},
		{-1 << 32, nil, api.ErrArg},
		{least, nil, api.ErrArg},
		// And those of these to 1.
		{greatest, zeros(1), api.ErrArg},
		{least + 1, zeros(1), api.ErrArg},

		{1, nil, api.ErrLong},
		{1, []int{}, api.ErrLong},
		{1, zeros(2), api.ErrLong},
		{2, nil, api.ErrLong},
		{2, zeros(1), api.ErrLong},
		{2, zeros(3), api.ErrLong},
		{2, zeros(5), api.ErrLong},
		{2, zeros(9), api.ErrLong},
		{3, zeros(4), api.ErrLong},
		{3, zeros(8), api.ErrLong},
		{3, zeros(10), api.ErrLong},
		{most, nil, api.ErrLong},
		{most, zeros(most), api.ErrLong},
		{most, zeros(most*most - 1), api.ErrLong},
		{most, zeros(most*most + 1), api.ErrLong},

		{1, []int{-1}, api.ErrOver},
		{1, []int{longest + 1}, api.ErrOver},
		{2, []int{0, -1, 0, 0}, api.ErrOver},
		{2, []int{0, 0, longest + 1, 0}, api.ErrOver},
		{2, []int{0, least, 5, 0}, api.ErrOver},
		{2, []int{0, greatest, 5, 0}, api.ErrOver},

		{1, []int{1}, api.ErrForm},
		{1, []int{longest}, api.ErrForm},
		{2, []int{1, 5, 7, 0}, api.ErrForm},
		{2, []int{0, 5, 7, 1}, api.ErrForm},
		{2, []int{3, 5, 7, 3}, api.ErrForm},

		// Several errors at once.
		{0, []int{-1, 1}, api.ErrArg},
		{-1, []int{-1}, api.ErrArg},
		{-1, []int{1}, api.ErrArg},
		{most + 1, []int{longest + 1}, api.ErrArg},
		{most + 1, slices.Repeat([]int{1}, (most+1)*(most+1)), api.ErrArg},
		{1, []int{-1, 0}, api.ErrLong},
		{1, []int{1, 1}, api.ErrLong},
		{2, []int{1, -1, longest + 1}, api.ErrLong},
		{2, []int{0, 5, 7, 0, -1}, api.ErrLong},
		{2, []int{1, longest + 1, 0, 0}, api.ErrOver},
		{2, []int{1, 5, -1, 0}, api.ErrOver},
		{2, []int{1, 5, 7, -1}, api.ErrOver},
		{2, []int{-1, 5, 7, 1}, api.ErrOver},
		{2, []int{longest + 1, 5, 7, 0}, api.ErrOver},
	} {
		if m, why := geo.New(c.n, c.times...); m != nil || why != c.want {
			t.Errorf("%d: New(%d, %v) = %v, %d, not %d", i, c.n, c.times, m, why, c.want)
		}
	}
}

// P4.1: the bounds of n, with as many times as it takes.
func TestNewBoundsPlaces(t *testing.T) {
	for n := -20; n <= 20; n++ {
		want := api.OK
		if n < 1 || n > most {
			want = api.ErrArg
		}
		if m, why := geo.New(n, make([]int, n*n)...); why != want || (m != nil) != (why == api.OK) {
			t.Errorf("New of %d places = %v, %d, not %d", n, m, why, want)
		}
	}
}

// P4.1: exactly n * n times, for every n.
func TestNewCountsTimes(t *testing.T) {
	for n := 1; n <= most; n++ {
		for count := range most*most + 3 {
			want := api.ErrLong
			if count == n*n {
				want = api.OK
			}
			if m, why := geo.New(n, make([]int, count)...); why != want || (m != nil) != (why == api.OK) {
				t.Errorf("New of %d places and %d times = %v, %d, not %d", n, count, m, why, want)
			}
		}
	}
}

// P4.1: the bounds of a time, anywhere in the list; where it is that from a place to itself, it must be 0.
func TestNewBoundsTimes(t *testing.T) {
	for _, n := range []int{1, 2, 3, 7, most} {
		for i := range n * n {
			for _, time := range []int{least, -longest, -2, -1, 0, 1, 2, longest - 1, longest, longest + 1, longest + 2, greatest} {
				want := api.OK
				if i/n == i%n && time != 0 {
					want = api.ErrForm
				}
				if time < 0 || time > longest {
					want = api.ErrOver
				}
				times := with(uniform(n, 5), i, time)
				m, why := geo.New(n, times...)
				if why != want || (m != nil) != (why == api.OK) {
					t.Errorf("New(%d, %v) = %v, %d, not %d", n, times, m, why, want)
				}
				if want == api.OK {
					check(t, m, n, times)
				}
			}
		}
	}
}

// P4.1: wherever the times stand, one out of bounds is told ahead of one from a place to itself.
func TestNewOverBeforeForm(t *testing.T) {
	for _, n := range []int{1, 2, 3, most} {
		for i := range n * n {
			for a := range n {
				if i == a*n+a {
					continue
				}
				for _, time := range []int{-1, longest + 1} {
					times := with(with(uniform(n, 5), a*n+a, 1), i, time)
					if m, why := geo.New(n, times...); m != nil || why != api.ErrOver {
						t.Errorf("New(%d, %v) = %v, %d", n, times, m, why)
					}
				}
			}
		}
	}
}

// P4.1 and P4.2: a map tells what it was made of.
func TestMapTells(t *testing.T) {
	for _, c := range []struct {
		n     int
		times []int
	}{
		{1, []int{0}},
		{2, []int{0, 5, 7, 0}},
		{2, []int{0, 0, 0, 0}},
		{2, []int{0, longest, 0, 0}},
		{3, []int{0, 1, 2, 3, 0, 4, 5, 6, 0}},
		{3, []int{0, 9, 2, 9, 0, 9, 9, 3, 0}},
		{most, uniform(most, longest)},
		{most, make([]int, most*most)},
	} {
		check(t, made(t, c.n, c.times), c.n, c.times)
	}
	// Every time is another one, so that none can stand in another's place.
	for n := 1; n <= most; n++ {
		times := make([]int, n*n)
		for i := range times {
			if i/n != i%n {
				times[i] = 1000 + i
			}
		}
		check(t, made(t, n, times), n, times)
	}
}

// P4.2: what is not a place, for a and for b.
func TestTimeOfNoPlace(t *testing.T) {
	for n := 1; n <= most; n++ {
		m := made(t, n, uniform(n, 5))
		for _, place := range []int{least, -1 << 32, -n, -1, n, n + 1, n * n, most, most + 1, 1 << 32, 1 << 62, greatest} {
			if place >= 0 && place < n {
				continue
			}
			for _, other := range []int{0, n - 1, n, -1, least, greatest} {
				if got, ok := m.Time(place, other); got != 0 || ok {
					t.Errorf("Time(%d, %d) of %d places = %d, %v", place, other, n, got, ok)
				}
				if got, ok := m.Time(other, place); got != 0 || ok {
					t.Errorf("Time(%d, %d) of %d places = %d, %v", other, place, n, got, ok)
				}
			}
		}
		if got, ok := m.Time(n-1, 0); got != m.Times()[(n-1)*n] || !ok {
			t.Errorf("Time(%d, 0) = %d, %v", n-1, got, ok)
		}
		if got, ok := m.Time(0, n-1); got != m.Times()[n-1] || !ok {
			t.Errorf("Time(0, %d) = %d, %v", n-1, got, ok)
		}
		if got, ok := m.Time(n-1, n-1); got != 0 || !ok {
			t.Errorf("Time(%d, %d) = %d, %v", n-1, n-1, got, ok)
		}
	}
}

// P4.2: a number that is not a place must not reach into another row of the list.
func TestTimeKeepsToRows(t *testing.T) {
	m := made(t, 3, []int{0, 1, 2, 3, 0, 4, 5, 6, 0})
	for _, c := range [][2]int{{0, 3}, {0, 4}, {0, 8}, {1, -1}, {2, -6}, {1, 3}, {3, -3}, {3, -9}, {-1, 3}, {-1, 6}} {
		if got, ok := m.Time(c[0], c[1]); got != 0 || ok {
			t.Errorf("Time(%d, %d) = %d, %v", c[0], c[1], got, ok)
		}
	}
}

// P4.2 and P4.3: every method of a nil map.
func TestNilMap(t *testing.T) {
	var m *geo.Map
	if got := m.Places(); got != 0 {
		t.Errorf("Places = %d", got)
	}
	for _, a := range []int{least, -1, 0, 1, most, greatest} {
		for _, b := range []int{least, -1, 0, 1, most, greatest} {
			if got, ok := m.Time(a, b); got != 0 || ok {
				t.Errorf("Time(%d, %d) = %d, %v", a, b, got, ok)
			}
		}
	}
	if got := m.Times(); got != nil {
		t.Errorf("Times = %v", got)
	}
	if got := m.Closed(); got != nil {
		t.Errorf("Closed = %v", got)
	}
	if m.Even() {
		t.Error("Even")
	}
	if m.Closed().Closed() != nil || m.Closed().Even() || m.Closed().Times() != nil {
		t.Error("a nil map that was closed")
	}
	refused, _ := geo.New(0)
	if refused.Places() != 0 || refused.Times() != nil || refused.Closed() != nil || refused.Even() {
		t.Error("a map that was refused")
	}
}

// P4.3
func TestClosed(t *testing.T) {
	for _, c := range []struct {
		n           int
		times, want []int
	}{
		{1, []int{0}, []int{0}},
		{2, []int{0, 5, 7, 0}, []int{0, 5, 7, 0}},
		{2, []int{0, longest, longest, 0}, []int{0, longest, longest, 0}},
		{2, []int{0, 0, 9, 0}, []int{0, 0, 9, 0}},
		{3, []int{0, 9, 2, 9, 0, 9, 9, 3, 0}, []int{0, 5, 2, 9, 0, 9, 9, 3, 0}},
		{3, []int{0, 6, 2, 6, 0, 4, 2, 4, 0}, []int{0, 6, 2, 6, 0, 4, 2, 4, 0}},
		// One more than the way round is too much.
		{3, []int{0, 7, 2, 6, 0, 4, 2, 4, 0}, []int{0, 6, 2, 6, 0, 4, 2, 4, 0}},
		// Places that are no time apart are as one.
		{3, []int{0, 0, 8, 0, 0, 3, 9, 4, 0}, []int{0, 0, 3, 0, 0, 3, 4, 4, 0}},
		{3, []int{0, longest, 0, longest, 0, longest, longest, 0, 0}, []int{0, 0, 0, longest, 0, longest, longest, 0, 0}},
		// One way only: 0, 1, 2, 3, and the times back stay.
		{4, []int{0, 1, 50, 50, 50, 0, 1, 50, 50, 50, 0, 1, 50, 50, 50, 0}, []int{0, 1, 2, 3, 50, 0, 1, 2, 50, 50, 0, 1, 50, 50, 50, 0}},
		// 0, 3, 2, 1
		{4, []int{0, 50, 50, 1, 50, 0, 50, 50, 50, 1, 0, 50, 50, 50, 1, 0}, []int{0, 3, 2, 1, 50, 0, 50, 50, 50, 1, 0, 50, 50, 2, 1, 0}},
		// 2, 0, 3, 1
		{4, []int{0, 50, 50, 1, 50, 0, 50, 50, 1, 50, 0, 50, 50, 1, 50, 0}, []int{0, 2, 50, 1, 50, 0, 50, 50, 1, 3, 0, 2, 50, 1, 50, 0}},
	} {
		m := made(t, c.n, c.times)
		check(t, m.Closed(), c.n, c.want)
		check(t, m, c.n, c.times)
	}
}

// P4.3: a path through all places, in every order of them.
func TestClosedInEveryOrder(t *testing.T) {
	for n := 1; n <= 6; n++ {
		forOrders(n, func(order []int) {
			m := made(t, n, chained(order, 3, longest)).Closed()
			for i, a := range order {
				for j, b := range order {
					want := longest
					if i <= j {
						want = 3 * (j - i)
					}
					if got, ok := m.Time(a, b); got != want || !ok {
						t.Errorf("Time(%d, %d) along %v = %d, %v, not %d", a, b, order, got, ok, want)
					}
				}
			}
		})
	}
}

// P4.3: a path through as many places as there may be: rising, falling, from both ends, from the middle.
func TestClosedThroughAll(t *testing.T) {
	for _, order := range [][]int{
		{0, 1, 2, 3, 4, 5, 6, 7, 8, 9, 10, 11},
		{11, 10, 9, 8, 7, 6, 5, 4, 3, 2, 1, 0},
		{0, 11, 1, 10, 2, 9, 3, 8, 4, 7, 5, 6},
		{6, 5, 7, 4, 8, 3, 9, 2, 10, 1, 11, 0},
		{5, 0, 7, 2, 11, 1, 9, 4, 10, 3, 8, 6},
		{0, 2, 4, 6, 8, 10, 11, 9, 7, 5, 3, 1},
	} {
		times := chained(order, 90000, longest)
		m := made(t, most, times)
		if got, ok := m.Closed().Time(order[0], order[most-1]); got != 90000*(most-1) || !ok {
			t.Errorf("along %v: %d, %v", order, got, ok)
		}
		if m.Even() {
			t.Errorf("Even along %v", order)
		}
		check(t, m.Closed(), most, bySteps(most, times))
	}
}

// P4.3: the way round counts only if it is shorter; ties change nothing.
func TestClosedTies(t *testing.T) {
	for _, direct := range []int{19, 20, 21} {
		for n := 3; n <= most; n++ {
			for i := range n * n {
				if i/n == i%n {
					continue
				}
				times := with(uniform(n, 10), i, direct)
				m := made(t, n, times)
				check(t, m.Closed(), n, with(times, i, min(direct, 20)))
				if got := m.Even(); got != (direct <= 20) {
					t.Errorf("Even of %v = %v", times, got)
				}
			}
		}
	}
}

// P4.3: one way round that is shorter, or as long, by any one place.
func TestEvenLooksEverywhere(t *testing.T) {
	for _, n := range []int{3, 4, most} {
		for a := range n {
			for b := range n {
				for c := range n {
					if a == b || b == c || a == c {
						continue
					}
					// No other way round is shorter: each takes 17 at least.
					times := with(with(with(uniform(n, 10), a*n+b, 7), b*n+c, 7), a*n+c, 14)
					if !made(t, n, times).Even() {
						t.Errorf("%v is not Even", times)
					}
					times[a*n+c] = 15
					if made(t, n, times).Even() {
						t.Errorf("%v is Even", times)
					}
				}
			}
		}
	}
}

// P4.3: maps that are Even whatever their times.
func TestEven(t *testing.T) {
	for n := 1; n <= most; n++ {
		for _, time := range []int{0, 1, 10, longest} {
			if !made(t, n, uniform(n, time)).Even() {
				t.Errorf("%d places, each %d from the next, are not Even", n, time)
			}
		}
	}
	for _, times := range [][]int{{0, 5, 7, 0}, {0, 0, longest, 0}, {0, longest, 0, 0}, {0, longest, longest, 0}} {
		if !made(t, 2, times).Even() {
			t.Errorf("%v is not Even", times)
		}
	}
}

// agree holds what P4.3 and P4.4 say against times that are worked out another way.
func agree(t *testing.T, n int, times, shortest []int) {
	t.Helper()
	m := made(t, n, times)
	closed := m.Closed()
	if closed == nil || closed.Places() != n || !slices.Equal(closed.Times(), shortest) {
		t.Fatalf("Closed of %v = %v, not %v", times, closed, shortest)
	}
	if got, want := m.Even(), wantEven(n, times); got != want {
		t.Fatalf("Even of %v = %v, not %v", times, got, want)
	}
	// P4.4
	if !closed.Even() {
		t.Fatalf("%v, closed, is not Even", times)
	}
	for i, time := range closed.Times() {
		if time > times[i] {
			t.Fatalf("%v, closed, is %v, greater at %d", times, closed.Times(), i)
		}
	}
	if again := closed.Closed(); !slices.Equal(again.Times(), closed.Times()) || again.Places() != n {
		t.Fatalf("%v, closed again, is %v", closed.Times(), again.Times())
	}
	if same := slices.Equal(closed.Times(), times); same != m.Even() {
		t.Fatalf("Even of %v = %v, but closed it is %v", times, m.Even(), closed.Times())
	}
	if !slices.Equal(m.Times(), times) {
		t.Fatalf("%v is %v now", times, m.Times())
	}
}

// P4.3 and P4.4, for every small map of a few times, against all paths
func TestSmallMaps(t *testing.T) {
	for _, c := range []struct {
		n     int
		among []int
	}{
		{1, []int{0}},
		{2, []int{0, 1, 2, longest}},
		{3, []int{0, 1, 2, 3, 5}},
		{4, []int{1, 5}},
		{4, []int{0, 1}},
		{4, []int{2, longest}},
	} {
		forAll(c.n, c.among, func(times []int) {
			agree(t, c.n, times, byPaths(c.n, times))
		})
	}
}

// P4.3 and P4.4, for maps of every size, against paths of ever more steps
func TestMixedMaps(t *testing.T) {
	even, uneven := 0, 0
	forMixed(func(n int, times []int) {
		shortest := bySteps(n, times)
		agree(t, n, times, shortest)
		agree(t, n, shortest, shortest)
		if n <= 6 && !slices.Equal(byPaths(n, times), shortest) {
			t.Fatalf("%v has paths %v and steps %v", times, byPaths(n, times), shortest)
		}
		if wantEven(n, times) {
			even++
		} else {
			uneven++
		}
	})
	if even < 100 || uneven < 100 {
		t.Errorf("%d maps are Even, %d are not", even, uneven)
	}
}

// The chapter's example runs.
func TestExampleRuns(t *testing.T) {
	m, why := geo.New(2, 0, 5, 7, 0)
	if m == nil || why != api.OK {
		t.Fatalf("New(2, 0, 5, 7, 0) = %v, %d", m, why)
	}
	for _, c := range []struct {
		a, b, want int
		ok         bool
	}{{0, 1, 5, true}, {1, 0, 7, true}, {2, 0, 0, false}} {
		if got, ok := m.Time(c.a, c.b); got != c.want || ok != c.ok {
			t.Errorf("Time(%d, %d) = %d, %v", c.a, c.b, got, ok)
		}
	}
	for _, c := range []struct {
		n     int
		times []int
		want  api.Errno
	}{{0, nil, api.ErrArg}, {2, []int{0}, api.ErrLong}, {1, []int{1}, api.ErrForm}, {1, []int{-1}, api.ErrOver}, {13, nil, api.ErrArg}} {
		if m, why := geo.New(c.n, c.times...); m != nil || why != c.want {
			t.Errorf("New(%d, %v) = %v, %d, not %d", c.n, c.times, m, why, c.want)
		}
	}
	m, _ = geo.New(3, 0, 9, 2, 9, 0, 9, 9, 3, 0)
	if got, ok := m.Closed().Time(0, 1); got != 5 || !ok {
		t.Errorf("Closed().Time(0, 1) = %d, %v", got, ok)
	}
	if m.Even() || !m.Closed().Even() {
		t.Errorf("Even() = %v, Closed().Even() = %v", m.Even(), m.Closed().Even())
	}
}

// R2 and R5: the list that is handed in stays, what lies behind it too, and that is not read.
func TestListsStay(t *testing.T) {
	whole := []int{-1, 0, 9, 2, 9, 0, 9, 9, 3, 0, 42, least}
	before := slices.Clone(whole)
	m := made(t, 3, whole[1:10])
	c := m.Closed()
	m.Even()
	spoil(m.Times())
	spoil(c.Times())
	if !slices.Equal(whole, before) {
		t.Errorf("the list is now %v", whole)
	}
	check(t, m, 3, before[1:10])
	// A list that is too short stays so, whatever its capacity.
	if m, why := geo.New(3, whole[1:9]...); m != nil || why != api.ErrLong {
		t.Errorf("New of a piece = %v, %d", m, why)
	}
	if m, why := geo.New(1, whole[1:1]...); m != nil || why != api.ErrLong {
		t.Errorf("New of an empty piece = %v, %d", m, why)
	}
	if !slices.Equal(whole, before) {
		t.Errorf("the list is now %v", whole)
	}
}

// spoil changes a list and everything that its capacity reaches.
func spoil(l []int) {
	l = l[:cap(l)]
	for i := range l {
		l[i] = -7
	}
}

// R2: a map does not change when the list that it was made of does.
func TestMapKeepsNoList(t *testing.T) {
	l := []int{0, 9, 2, 9, 0, 9, 9, 3, 0}
	want := slices.Clone(l)
	m := made(t, 3, l)
	spoil(l)
	check(t, m, 3, want)
	check(t, m.Closed(), 3, []int{0, 5, 2, 9, 0, 9, 9, 3, 0})
	if m.Even() || !m.Closed().Even() {
		t.Error("Even has changed with the list")
	}
	// Two maps of one list.
	l = slices.Clone(want)
	first, second := made(t, 3, l), made(t, 3, l)
	spoil(first.Times())
	spoil(second.Closed().Times())
	check(t, first, 3, want)
	check(t, second, 3, want)
}

// R2: Times answers new memory each time, of a map and of a closed one.
func TestTimesAreNew(t *testing.T) {
	for _, times := range [][]int{{0, 9, 2, 9, 0, 9, 9, 3, 0}, uniform(3, 4)} {
		m := made(t, 3, times)
		closed := m.Closed()
		shortest := bySteps(3, times)
		l, other, ofClosed := m.Times(), m.Times(), closed.Times()
		spoil(l)
		if !slices.Equal(other, times) || !slices.Equal(ofClosed, shortest) {
			t.Errorf("Times share memory: %v, %v", other, ofClosed)
		}
		check(t, m, 3, times)
		check(t, closed, 3, shortest)
		spoil(ofClosed)
		if !slices.Equal(other, times) {
			t.Errorf("Times share memory: %v", other)
		}
		check(t, m, 3, times)
		check(t, closed, 3, shortest)
	}
}

// P4.3: Closed answers a new map, even where nothing is to be closed, and leaves the old one.
func TestClosedIsNew(t *testing.T) {
	for _, times := range [][]int{{0}, {0, 5, 7, 0}, {0, 9, 2, 9, 0, 9, 9, 3, 0}, uniform(most, 4)} {
		n := int(math.Sqrt(float64(len(times))))
		m := made(t, n, times)
		first, second := m.Closed(), m.Closed()
		if first == m || second == m || first == second || first.Closed() == first {
			t.Errorf("Closed of %v is no new map", times)
		}
		shortest := bySteps(n, times)
		check(t, first, n, shortest)
		check(t, second, n, shortest)
		check(t, m, n, times)
	}
}

// R4: the same calls have the same answers, however often and in whichever order.
func TestAnswersStay(t *testing.T) {
	times := []int{0, 9, 2, 9, 0, 9, 9, 3, 0}
	m := made(t, 3, times)
	for range 3 {
		check(t, m.Closed().Closed(), 3, []int{0, 5, 2, 9, 0, 9, 9, 3, 0})
		if m.Even() || !m.Closed().Even() {
			t.Error("Even has changed")
		}
		check(t, m, 3, times)
	}
}
