package bits

import (
	mathbits "math/bits"
	"slices"

	"spoondrift/api"
)

// sum is a row, and, as the bits of a number, the given rows of which it is the sum.
type sum struct{ row, of int }

func (s sum) plus(other sum) sum { return sum{add(s.row, other.row), add(s.of, other.of)} }

// span is reduced rows, each of them at its lead, and nothing at the columns that are no lead.
// There is room for MaxRows columns, as the columns of a matrix are rows in their turn.
type span struct{ at [MaxRows]sum }

// The kinds of columns of a span.
const (
	leading = iota
	open
)

// task is what is done with a column.
type task struct{ do func(column int) }

// eachColumn does with each of the first n columns what the table has for its kind.
func (s *span) eachColumn(n int, table [2]task) {
	for k := range n {
		kind := leading
		if s.at[k] == (sum{}) {
			kind = open
		}
		table[kind].do(k)
	}
}

// reduced returns the rows, with falling leads.
func (s *span) reduced() []int {
	var rows []int
	s.eachColumn(MaxRows, [2]task{
		leading: {func(k int) { rows = append(rows, s.at[k].row) }},
		open:    {func(int) {}},
	})
	slices.Reverse(rows)
	return rows
}

// free returns those of the first n columns that are no lead.
func (s *span) free(n int) map[int]bool {
	columns := map[int]bool{}
	s.eachColumn(n, [2]task{
		leading: {func(int) {}},
		open:    {func(k int) { columns[k] = true }},
	})
	return columns
}

// byLead returns the rows by their leads, without what they are made of.
func (s *span) byLead() [MaxRows]int {
	var rows [MaxRows]int
	for k := range MaxRows {
		rows[k] = s.at[k].row
	}
	return rows
}

// rest returns what is left of a row without leads of the span; it is 0 just if the row was a member.
func (s *span) rest(x sum) sum {
	// no reduced row has the lead of another one, so that each lead is met once
	for k := range MaxRows {
		if has(x.row, k) {
			x = x.plus(s.at[k])
		}
	}
	return x
}

// made returns of which given rows a row is the sum, and whether it is one.
func (s *span) made(row int) (int, bool) {
	left := s.rest(sum{row: row})
	if left.row != 0 {
		return 0, false
	}
	return left.of, true
}

// members yields each member once.
func (s *span) members(yield func(int) bool) {
	rows := s.reduced()
	member := 0
	for i := range 1 << len(rows) {
		// one row is added or taken away from one member to the next, so that all of them are met
		if i > 0 {
			member = add(member, rows[mathbits.TrailingZeros(uint(i))])
		}
		if !yield(member) {
			return
		}
	}
}

// system is given rows at work: their span, and for each row that was in the span of those before it the rows whose sum is 0.
type system struct {
	span
	relations []int
}

// spanned brings rows into a span, from the first one on, so that what is in the span is told by the first rows that suffice.
func spanned(l []int) *system {
	s := &system{}
	reduce := s.rest
	bring := func(x sum, lead int) {
		for k := range MaxRows {
			if has(s.at[k].row, lead) {
				s.at[k] = s.at[k].plus(x)
			}
		}
		s.at[lead] = x
	}
rows:
	for i, row := range l {
		x := reduce(sum{row, 1 << i})
		for lead := MaxRows - 1; lead >= 0; lead-- {
			if has(x.row, lead) {
				bring(x, lead)
				continue rows
			}
		}
		s.relations = append(s.relations, x.of)
	}
	return s
}

// leastMade returns the least number whose bits are rows with the given sum.
func leastMade(l []int, row int) (int, api.Errno) {
	// any other such number has a row that is in the span of those before it, and a greater bit for it
	of, ok := spanned(l).made(row)
	if !ok {
		return 0, api.ErrNone
	}
	return of, api.OK
}

// null returns the reduced rows of all that is orthogonal to the rows, of which there are at most MaxRows.
func null(l []int, n int) []int {
	// a row is orthogonal to all just if the columns that it chooses have the sum 0, and each such choice is led by a column that no other one has
	orthogonal := spanned(transposed(l, n)).relations
	slices.Reverse(orthogonal)
	return orthogonal
}

// transposed returns the n columns as rows.
func transposed(l []int, n int) []int {
	rows := make([]int, len(l))
	copy(rows, l)
	var columns []int
	for range n {
		column := 0
		for i := range rows {
			column |= (rows[i] & 1) << i
			rows[i] >>= 1
		}
		columns = append(columns, column)
	}
	return columns
}

// chosen returns the rows whose numbers are bits of which.
func chosen(l []int, which int) []int {
	var rows []int
	for i, row := range l {
		if has(which, i) {
			rows = append(rows, row)
		}
	}
	return rows
}

// add returns the sum of rows.
func add(rows ...int) int {
	total := 0
	for _, row := range rows {
		total ^= row
	}
	return total
}

// all reports whether each element is as it is asked for.
func all[E any](l []E, ask func(E) bool) bool {
	for _, x := range l {
		if !ask(x) {
			return false
		}
	}
	return true
}

// has reports whether a row has 1 in a column.
func has(row, column int) bool { return row>>column&1 == 1 }

// fits reports whether a number is a row of n columns, for n up to MaxRows.
func fits(row, n int) bool { return row >= 0 && row < 1<<n }

func weight(x int) int { return mathbits.OnesCount(uint(x)) }

// lighter reports whether x has less weight than y, or the same, and is less.
func lighter(x, y int) bool {
	return weight(x) < weight(y) || weight(x) == weight(y) && x < y
}
