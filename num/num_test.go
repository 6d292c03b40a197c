package num_test

import (
	"math"
	"math/big"
	"slices"
	"testing"

	"dray/api"
	"dray/num"
)

const (
	most     = api.Most
	greatest = math.MaxInt
	least    = math.MinInt
)

// edges holds the numbers at which an answer may turn, in ascending order.
var edges = []int{
	least, least + 1, -1 << 62, -most - 2, -most - 1, -most, -most + 1, -most / 2, -1<<25 - 1, -1 << 25, -2, -1,
	0, 1, 2, 1 << 25, 1<<25 + 1, most / 2, most - 1, most, most + 1, most + 2, 1 << 62, greatest - 1, greatest,
}

// inRange holds the bound anew, in numbers that can't overflow.
func inRange(n *big.Int) bool {
	return n.CmpAbs(big.NewInt(1<<50)) <= 0
}

// wantSum is P1.2 in numbers that can't overflow.
func wantSum(l []int) (int, bool) {
	total := new(big.Int)
	for _, n := range l {
		next := big.NewInt(int64(n))
		total.Add(total, next)
		if !inRange(next) || !inRange(total) {
			return 0, false
		}
	}
	return int(total.Int64()), true
}

func clipped(n *big.Int) *big.Int {
	high, low := big.NewInt(1<<50), big.NewInt(-1<<50)
	if n.Cmp(low) < 0 {
		return low
	}
	if n.Cmp(high) > 0 {
		return high
	}
	return n
}

// wantSat is P1.3 in numbers that can't overflow.
func wantSat(l []int) int {
	total := new(big.Int)
	for _, n := range l {
		total = clipped(new(big.Int).Add(total, clipped(big.NewInt(int64(n)))))
	}
	return int(total.Int64())
}

// wantMul is P1.4 in numbers that can't overflow.
func wantMul(a, b int) (int, bool) {
	x, y := big.NewInt(int64(a)), big.NewInt(int64(b))
	product := new(big.Int).Mul(x, y)
	if !inRange(x) || !inRange(y) || !inRange(product) {
		return 0, false
	}
	return int(product.Int64()), true
}

// forLists calls f with every list of at most three of the edges.
func forLists(f func(l []int)) {
	f(nil)
	for _, a := range edges {
		f([]int{a})
		for _, b := range edges {
			f([]int{a, b})
			for _, c := range edges {
				f([]int{a, b, c})
			}
		}
	}
}

// P1.1
func TestIn(t *testing.T) {
	for _, c := range []struct {
		n    int
		want bool
	}{
		{0, true}, {1, true}, {-1, true}, {most - 1, true}, {1 - most, true}, {most, true}, {-most, true},
		{most + 1, false}, {-most - 1, false}, {1 << 62, false}, {greatest, false}, {least, false}, {least + 1, false},
	} {
		if got := num.In(c.n); got != c.want {
			t.Errorf("In(%d) = %v", c.n, got)
		}
	}
}

// P1.2
func TestSum(t *testing.T) {
	for _, c := range []struct {
		l    []int
		want int
		ok   bool
	}{
		{nil, 0, true},
		{[]int{}, 0, true},
		{[]int{0}, 0, true},
		{[]int{1, 2, -5}, -2, true},
		{[]int{3, 4, 5, 6, 7}, 25, true},
		{[]int{most}, most, true},
		{[]int{-most}, -most, true},
		{[]int{most, -most, most}, most, true},
		{[]int{most, -most, -most}, -most, true},
		{[]int{most, -1, 1}, most, true},
		{[]int{-most, 1, -1}, -most, true},
		{[]int{most / 2, most / 2}, most, true},
		{[]int{most / 2, most/2 + 1}, 0, false},
		{[]int{most, 1, -1}, 0, false},
		{[]int{-most, -1, 1}, 0, false},
		{[]int{most, most, -most}, 0, false},
		{[]int{most + 1}, 0, false},
		{[]int{-most - 1}, 0, false},
		{[]int{-1, most + 1}, 0, false},
		{[]int{1, -most - 1}, 0, false},
		{[]int{5, most + 1, -most - 1}, 0, false},
		{[]int{greatest}, 0, false},
		{[]int{least}, 0, false},
		{[]int{greatest, least, 1}, 0, false},
		{[]int{least, least}, 0, false},
		{[]int{greatest, greatest, 2}, 0, false},
		{[]int{1, 2, 3, greatest}, 0, false},
	} {
		if got, ok := num.Sum(c.l...); got != c.want || ok != c.ok {
			t.Errorf("Sum(%v) = %d, %v", c.l, got, ok)
		}
	}
}

// P1.2, at every list of edges
func TestSumAtEdges(t *testing.T) {
	forLists(func(l []int) {
		want, wantOK := wantSum(l)
		if got, ok := num.Sum(l...); got != want || ok != wantOK {
			t.Errorf("Sum(%v) = %d, %v, not %d, %v", l, got, ok, want, wantOK)
		}
	})
}

// P1.3
func TestSat(t *testing.T) {
	for _, c := range []struct {
		l    []int
		want int
	}{
		{nil, 0},
		{[]int{}, 0},
		{[]int{4, 5}, 9},
		{[]int{1, 2, -5}, -2},
		{[]int{most}, most},
		{[]int{-most}, -most},
		{[]int{most + 1}, most},
		{[]int{-most - 1}, -most},
		{[]int{most, 1, -1}, most - 1},
		{[]int{-most, -1, 1}, 1 - most},
		{[]int{-1, most, 1}, most},
		{[]int{-1, most + 5}, most - 1},
		{[]int{1, -most - 5}, 1 - most},
		{[]int{most + 5, -7}, most - 7},
		{[]int{most, most, -most}, 0},
		{[]int{-most, -most, most}, 0},
		{[]int{greatest}, most},
		{[]int{least}, -most},
		{[]int{greatest, least}, 0},
		{[]int{least, least, 3}, 3 - most},
		{[]int{greatest, greatest, -3}, most - 3},
	} {
		if got := num.Sat(c.l...); got != c.want {
			t.Errorf("Sat(%v) = %d, not %d", c.l, got, c.want)
		}
	}
}

// P1.3, at every list of edges
func TestSatAtEdges(t *testing.T) {
	forLists(func(l []int) {
		if got, want := num.Sat(l...), wantSat(l); got != want {
			t.Errorf("Sat(%v) = %d, not %d", l, got, want)
		}
	})
}

// P1.4
func TestMul(t *testing.T) {
	for _, c := range []struct {
		a, b, want int
		ok         bool
	}{
		{0, 0, 0, true}, {3, 4, 12, true}, {-3, 4, -12, true}, {3, -4, -12, true}, {-3, -4, 12, true},
		{most, 1, most, true}, {most, -1, -most, true}, {-most, 1, -most, true}, {-most, -1, most, true},
		{most, 0, 0, true}, {0, -most, 0, true},
		{most, 2, 0, false}, {-most, 2, 0, false}, {most, most, 0, false}, {-most, -most, 0, false},
		{most + 1, 0, 0, false}, {0, most + 1, 0, false}, {-most - 1, 0, 0, false}, {0, -most - 1, 0, false},
		{most + 1, 1, 0, false}, {1, -most - 1, 0, false},
		{1 << 25, 1 << 25, most, true}, {-1 << 25, 1 << 25, -most, true}, {-1 << 25, -1 << 25, most, true},
		{1 << 26, 1 << 25, 0, false}, {1<<25 + 1, 1 << 25, 0, false}, {1<<25 + 1, 1<<25 - 1, most - 1, true},
		{3, most / 3, most - 1, true}, {3, most/3 + 1, 0, false}, {-3, most/3 + 1, 0, false},
		{1 << 32, 1 << 32, 0, false}, {1 << 33, 1 << 31, 0, false},
		{greatest, 0, 0, false}, {least, 0, 0, false}, {0, greatest, 0, false}, {0, least, 0, false},
		{least, -1, 0, false}, {-1, least, 0, false}, {greatest, greatest, 0, false}, {least, least, 0, false},
	} {
		if got, ok := num.Mul(c.a, c.b); got != c.want || ok != c.ok {
			t.Errorf("Mul(%d, %d) = %d, %v", c.a, c.b, got, ok)
		}
	}
}

// P1.4, at every pair of edges, and just around what still fits beside each small factor
func TestMulAtEdges(t *testing.T) {
	check := func(a, b int) {
		want, wantOK := wantMul(a, b)
		if got, ok := num.Mul(a, b); got != want || ok != wantOK {
			t.Errorf("Mul(%d, %d) = %d, %v, not %d, %v", a, b, got, ok, want, wantOK)
		}
	}
	for _, a := range edges {
		for _, b := range edges {
			check(a, b)
		}
	}
	for a := 1; a <= 300; a++ {
		for b := most/a - 2; b <= most/a+2; b++ {
			check(a, b)
			check(-a, b)
			check(a, -b)
			check(-a, -b)
		}
	}
}

// P1.5
func TestClip(t *testing.T) {
	for _, c := range []struct{ n, lo, hi, want int }{
		{4, 3, 7, 4}, {2, 3, 7, 3}, {8, 3, 7, 7}, {3, 3, 7, 3}, {7, 3, 7, 7}, {5, 5, 5, 5}, {4, 5, 5, 5}, {6, 5, 5, 5},
		{-4, -7, -3, -4}, {-8, -7, -3, -7}, {-2, -7, -3, -3},
		// The bounds may stand the wrong way round: lo is asked first.
		{5, 7, 3, 7}, {8, 7, 3, 3}, {7, 7, 3, 3}, {3, 7, 3, 7}, {2, 7, 3, 7},
		{most, -most, most, most}, {-most, -most, most, -most},
		{most + 1, -most, most, most}, {-most - 1, -most, most, -most},
		{greatest, -most, most, most}, {least, -most, most, -most},
		// Clip itself knows no bound but those it is given.
		{greatest, least, greatest, greatest}, {least, least, greatest, least}, {0, least, greatest, 0},
		{0, greatest, least, greatest}, {greatest, greatest, least, least}, {least, greatest, least, greatest},
		{0, most + 1, greatest, most + 1}, {0, least, -most - 1, -most - 1},
	} {
		if got := num.Clip(c.n, c.lo, c.hi); got != c.want {
			t.Errorf("Clip(%d, %d, %d) = %d, not %d", c.n, c.lo, c.hi, got, c.want)
		}
	}
}

// P1.6: where Sum is true, Sat is the same number.
func TestSatFollowsSum(t *testing.T) {
	forLists(func(l []int) {
		if want, ok := num.Sum(l...); ok && num.Sat(l...) != want {
			t.Errorf("Sat(%v) = %d, Sum %d", l, num.Sat(l...), want)
		}
	})
}

// P1.6: Sat is in range.
func TestSatInRange(t *testing.T) {
	forLists(func(l []int) {
		if got := num.Sat(l...); got < -most || got > most {
			t.Errorf("Sat(%v) = %d", l, got)
		}
	})
}

// P1.6: Sat does not decrease if a number of the list increases.
func TestSatRises(t *testing.T) {
	forLists(func(l []int) {
		before := num.Sat(l...)
		for i, n := range l {
			at := slices.Index(edges, n)
			if at == len(edges)-1 {
				continue
			}
			more := slices.Clone(l)
			more[i] = edges[at+1]
			if after := num.Sat(more...); after < before {
				t.Errorf("Sat(%v) = %d, Sat(%v) = %d", l, before, more, after)
			}
		}
	})
}

// P1.6: the order of Mul's numbers does not matter.
func TestMulEitherWay(t *testing.T) {
	for _, a := range edges {
		for _, b := range edges {
			n, ok := num.Mul(a, b)
			if m, mOK := num.Mul(b, a); n != m || ok != mOK {
				t.Errorf("Mul(%d, %d) = %d, %v, the other way %d, %v", a, b, n, ok, m, mOK)
			}
		}
	}
}

// The chapter's example runs.
func TestExampleRuns(t *testing.T) {
	pair := func(n int, ok bool) [2]int {
		if ok {
			return [2]int{n, 1}
		}
		return [2]int{n, 0}
	}
	for i, c := range []struct{ got, want [2]int }{
		{pair(num.Sum()), [2]int{0, 1}},
		{pair(num.Sum(1, 2, -5)), [2]int{-2, 1}},
		{pair(num.Sum(most, 1, -1)), [2]int{0, 0}},
		{pair(num.Sum(most, -1, 1)), [2]int{most, 1}},
		{pair(num.Sat(most, 1, -1), true), [2]int{most - 1, 1}},
		{pair(num.Sat(most+5, -7), true), [2]int{most - 7, 1}},
		{pair(num.Mul(-3, 4)), [2]int{-12, 1}},
		{pair(num.Mul(1<<25, 1<<25)), [2]int{most, 1}},
		{pair(num.Mul(1<<26, 1<<25)), [2]int{0, 0}},
		{pair(num.Clip(5, 7, 3), true), [2]int{7, 1}},
		{pair(num.Clip(8, 7, 3), true), [2]int{3, 1}},
		{pair(num.Clip(4, 3, 7), true), [2]int{4, 1}},
	} {
		if c.got != c.want {
			t.Errorf("run %d: %v, not %v", i, c.got, c.want)
		}
	}
}

// R2 and R5: the numbers that are handed in stay as they are, and what lies behind them is not read.
func TestListsStay(t *testing.T) {
	whole := []int{most, 1, -1, greatest, least}
	l := whole[:3]
	if n, ok := num.Sum(l[1:]...); n != 0 || !ok {
		t.Errorf("Sum of a piece = %d, %v", n, ok)
	}
	num.Sum(l...)
	if n := num.Sat(l...); n != most-1 {
		t.Errorf("Sat of a piece = %d", n)
	}
	if !slices.Equal(whole, []int{most, 1, -1, greatest, least}) {
		t.Errorf("the list is now %v", whole)
	}
}

// A longer list than any of the edges: the sums are kept from number to number.
func TestLongLists(t *testing.T) {
	ones := slices.Repeat([]int{1}, 100000)
	if n, ok := num.Sum(ones...); n != 100000 || !ok {
		t.Errorf("Sum of ones = %d, %v", n, ok)
	}
	great := slices.Repeat([]int{greatest}, 100000)
	if n := num.Sat(great...); n != most {
		t.Errorf("Sat of the greatest = %d", n)
	}
	swings := slices.Repeat([]int{most, -most}, 50000)
	if n, ok := num.Sum(swings...); n != 0 || !ok {
		t.Errorf("Sum of swings = %d, %v", n, ok)
	}
}
