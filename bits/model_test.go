package bits_test

import (
	mathbits "math/bits"
	"slices"
)

// The model goes through all rows, and knows nothing of leads.

// draws are numbers that look drawn, the same ones in each run.
type draws uint64

func (d *draws) below(n int) int {
	*d = *d*6364136223846793005 + 1442695040888963407
	return int(uint64(*d)>>33) % n
}

// rows returns m rows of n columns; sometimes they are sums of few, so that the rank is small.
func (d *draws) rows(m, n int) []int {
	l := make([]int, m)
	if d.below(2) == 0 {
		few := d.rowsOfAll(1+d.below(n), n)
		for i := range l {
			l[i] = sumOf(few, d.below(1<<len(few)))
		}
		return l
	}
	return d.rowsOfAll(m, n)
}

func (d *draws) rowsOfAll(m, n int) []int {
	l := make([]int, m)
	for i := range l {
		l[i] = d.below(1 << n)
	}
	return l
}

// invertible returns a matrix that has an inverse.
func (d *draws) invertible(n int) []int {
	l := make([]int, n)
	for i := range l {
		l[i] = 1 << i
	}
	for range 6 * n {
		i, k := d.below(n), d.below(n)
		if i != k {
			l[i] ^= l[k]
		}
	}
	return l
}

// sumOf is the sum of the rows whose numbers are bits of which.
func sumOf(l []int, which int) int {
	out := 0
	for i, row := range l {
		if which>>i&1 == 1 {
			out ^= row
		}
	}
	return out
}

// membersOf tells of each row whether it is in the span.
func membersOf(l []int, n int) []bool {
	in := make([]bool, 1<<n)
	in[0] = true
	for _, row := range l {
		before := slices.Clone(in)
		for x, is := range before {
			if is {
				in[x^row] = true
			}
		}
	}
	return in
}

// orthogonalTo tells of each row whether it is orthogonal to all rows of l.
func orthogonalTo(l []int, n int) []bool {
	is := make([]bool, 1<<n)
	for x := range is {
		is[x] = !slices.ContainsFunc(l, func(row int) bool { return ones(row&x)%2 == 1 })
	}
	return is
}

func count(in []bool) int {
	many := 0
	for _, is := range in {
		if is {
			many++
		}
	}
	return many
}

// leastWhich is the least number whose bits are rows of that sum, or -1: the last row is the first one with which there are enough.
func leastWhich(l []int, n, row int) int {
	if row == 0 {
		return 0
	}
	for i := range l {
		if membersOf(l[:i+1], n)[row] {
			return 1<<i | leastWhich(l[:i], n, row^l[i])
		}
	}
	return -1
}

// areReduced tells whether rows are reduced.
func areReduced(l []int) bool {
	for i, x := range l {
		if x == 0 || i > 0 && lead(x) >= lead(l[i-1]) {
			return false
		}
		for k, y := range l {
			if k != i && y>>lead(x)&1 == 1 {
				return false
			}
		}
	}
	return true
}

func ones(x int) int { return mathbits.OnesCount(uint(x)) }
func lead(x int) int { return mathbits.Len(uint(x)) - 1 }
