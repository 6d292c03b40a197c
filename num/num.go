// Package num adds and multiplies without leaving its bounds.
package num

import "dray/api"

// In reports whether n is from -Most to Most.
func In(n int) bool {
	return -api.Most <= n && n <= api.Most
}

// Sum returns the sum of l, and false if a number or the sum of a prefix is out of range.
func Sum(l ...int) (int, bool) {
	total := 0
	for _, n := range l {
		// Two numbers in range can't overflow an int, so n is looked at ahead of the adding.
		if !In(n) || !In(total+n) {
			return 0, false
		}
		total += n
	}
	return total, true
}

// Sat returns the sum of l, each number and each sum on the way clipped to the range.
func Sat(l ...int) int {
	total := 0
	for _, n := range l {
		total = bound(total + bound(n))
	}
	return total
}

// Mul returns the product of a and b, and false if one of the three is out of range.
func Mul(a, b int) (int, bool) {
	if !In(a) || !In(b) {
		return 0, false
	}
	// Dividing the bound tells, without an overflow, whether the product stays within it.
	if a != 0 && size(b) > api.Most/size(a) {
		return 0, false
	}
	return a * b, true
}

// Clip returns lo if n is less than lo, else hi if n is greater than hi, else n.
func Clip(n, lo, hi int) int {
	if n < lo {
		return lo
	}
	if n > hi {
		return hi
	}
	return n
}

func bound(n int) int {
	return Clip(n, -api.Most, api.Most)
}

// size is only asked of numbers in range: the least int has no negative of its own.
func size(n int) int {
	if n < 0 {
		return -n
	}
	return n
}
