package slack_test

import (
	"slices"
	"testing"

	"dray/api"
	"dray/slack"
)

// put is P8.2, stop by stop.
func put(stops []api.Stop, order, i, j int) []api.Stop {
	if i < 0 || j < i || j > len(stops) {
		return nil
	}
	var l []api.Stop
	for at := range len(stops) + 1 {
		if at == i {
			l = append(l, p(order))
		}
		if at == j {
			l = append(l, q(order))
		}
		if at < len(stops) {
			l = append(l, stops[at])
		}
	}
	return l
}

// checkPut calls Put; the stops stay, and what is answered, with the room behind it, is no part of them.
func checkPut(t *testing.T, stops []api.Stop, order, i, j int, want []api.Stop) {
	t.Helper()
	before := slices.Clone(stops[:cap(stops)])
	got := slack.Put(stops, order, i, j)
	if !slices.Equal(got, want) {
		t.Errorf("Put(%v, %d, %d, %d) = %v, not %v", stops, order, i, j, got, want)
	}
	got = got[:cap(got)]
	for k := range got {
		got[k] = q(-7)
	}
	if !slices.Equal(stops[:cap(stops)], before) {
		t.Fatalf("the stops and the room behind them are now %v, not %v", stops[:cap(stops)], before)
	}
}

// far holds indices that no stops have.
func far() []int {
	return []int{least, least + 1, -1 << 32, -2, -1, crowd + 9, 1 << 32, 1<<32 + 1, greatest - 1, greatest}
}

// P8.2: all places of two stops, written out
func TestPutTwo(t *testing.T) {
	a, b := q(4), p(5)
	for _, c := range []struct {
		i, j int
		want []api.Stop
	}{
		{0, 0, []api.Stop{p(7), q(7), a, b}}, {0, 1, []api.Stop{p(7), a, q(7), b}}, {0, 2, []api.Stop{p(7), a, b, q(7)}},
		{1, 1, []api.Stop{a, p(7), q(7), b}}, {1, 2, []api.Stop{a, p(7), b, q(7)}}, {2, 2, []api.Stop{a, b, p(7), q(7)}},
		{1, 0, nil}, {2, 0, nil}, {2, 1, nil},
		{0, 3, nil}, {1, 3, nil}, {2, 3, nil}, {3, 3, nil}, {3, 4, nil}, {3, 2, nil}, {3, 0, nil},
		{-1, -1, nil}, {-1, 0, nil}, {-1, 1, nil}, {-1, 2, nil}, {-1, 3, nil}, {0, -1, nil}, {1, -1, nil}, {2, -1, nil}, {-2, -1, nil},
	} {
		checkPut(t, []api.Stop{a, b}, 7, c.i, c.j, c.want)
	}
}

// P8.2: at both ends of no stops, which are the same one
func TestPutNone(t *testing.T) {
	for _, stops := range [][]api.Stop{nil, {}, make([]api.Stop, 0, 5), pairs(2)[:0]} {
		checkPut(t, stops, 7, 0, 0, []api.Stop{p(7), q(7)})
		for _, at := range append(far(), 1, 2) {
			checkPut(t, stops, 7, at, at, nil)
			checkPut(t, stops, 7, at, 0, nil)
			checkPut(t, stops, 7, 0, at, nil)
		}
	}
}

// P8.2: all places of up to MaxStops stops, and those beyond their ends
func TestPutEverywhere(t *testing.T) {
	for _, n := range []int{0, 1, 2, 3, 4, 7, 20} {
		stops := append(make([]api.Stop, 0, n+3), nested(most)[most-n/2:][:n]...)
		for i := -2; i <= n+2; i++ {
			for j := -2; j <= n+2; j++ {
				checkPut(t, stops, 7, i, j, put(stops, 7, i, j))
			}
			for _, at := range far() {
				checkPut(t, stops, 7, i, at, nil)
				checkPut(t, stops, 7, at, i, nil)
				checkPut(t, stops, 7, at, at, nil)
			}
		}
	}
}

// P8.2: Put asks neither how many stops there are nor what they or the order's number say.
func TestPutAnything(t *testing.T) {
	for _, n := range []int{crowd - 2, crowd - 1, crowd, crowd + 1, 2 * crowd, 1000} {
		stops := make([]api.Stop, n)
		for at := range stops {
			stops[at] = api.Stop{Order: at * at, Drop: at%3 == 0}
		}
		for _, i := range []int{0, 1, crowd - 3, n - 1, n} {
			for _, j := range []int{i, i + 1, n - 1, n, n + 1} {
				checkPut(t, stops, 7, i, j, put(stops, 7, i, j))
			}
		}
	}
	for _, order := range []int{least, least + 1, -1, 0, 1, highest, highest + 1, 1 << 32, greatest} {
		checkPut(t, []api.Stop{p(order), p(order)}, order, 1, 2, []api.Stop{p(order), p(order), p(order), q(order)})
		checkPut(t, []api.Stop{q(greatest), q(least)}, order, 0, 2, []api.Stop{p(order), q(greatest), q(least), q(order)})
		checkPut(t, nil, order, 0, 0, []api.Stop{p(order), q(order)})
		checkPut(t, nil, order, 1, 1, nil)
	}
}

// R2 and R5: what is behind the stops is not read, and what Put answered stays when they or another answer change.
func TestPutIsNew(t *testing.T) {
	stops := pairs(3)
	first, want := slack.Put(stops[:4], 7, 1, 3), []api.Stop{p(1), p(7), q(1), p(2), q(7), q(2)}
	second := slack.Put(stops[:4], 7, 1, 3)
	clear(second[:cap(second)])
	clear(stops)
	if !slices.Equal(first, want) {
		t.Errorf("the stops are now %v, not %v", first, want)
	}
}
