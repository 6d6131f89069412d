package flows_test

import (
	"math"
	"slices"
	"testing"

	"pointcode/api"
	"pointcode/flows"
)

// queue are the marks of the chapter's example.
var queue = flows.Marks{Begin: [3]int{4, 8, 12}, End: [3]int{2, 6, 10}}

// areMarks reports whether marks are valid by the definition.
func areMarks(m flows.Marks) bool {
	b, e := m.Begin, m.End
	return 0 <= e[0] && e[0] < b[0] && 0 <= e[1] && e[1] < b[1] && 0 <= e[2] && e[2] < b[2] &&
		b[0] < b[1] && b[1] < b[2] && e[0] <= e[1] && e[1] <= e[2]
}

// bounds returns the conditions for the level of a queue.
func bounds(m flows.Marks, length int) (least, greatest int) {
	for _, n := range m.Begin {
		if length >= n {
			least++
		}
	}
	for _, n := range m.End {
		if length > n {
			greatest++
		}
	}
	return least, greatest
}

// closest returns the level that is as close to the last one as is possible, found by looking at all levels.
func closest(m flows.Marks, last, length int) int {
	least, greatest := bounds(m, length)
	best := -1
	for level := least; level <= greatest; level++ {
		if best < 0 || max(level-last, last-level) < max(best-last, last-best) {
			best = level
		}
	}
	return best
}

// marks passes all marks with numbers from low to high to f.
func marks(low, high int, f func(flows.Marks)) {
	n := high - low + 1
	for k := range n * n * n * n * n * n {
		var m flows.Marks
		for i := range 3 {
			m.Begin[i], k = low+k%n, k/n
			m.End[i], k = low+k%n, k/n
		}
		f(m)
	}
}

// P10.5

func TestLevelsOfTheExample(t *testing.T) {
	got, e := flows.Levels(queue, 3, 4, 3, 2, 9, 7, 6, 20)
	if want := []int{0, 1, 1, 0, 2, 2, 1, 3}; e != api.OK || !slices.Equal(got, want) {
		t.Errorf("%v, %d", got, e)
	}
}

// TestLevelOfTheExample gives every level every length up to the last mark.
func TestLevelOfTheExample(t *testing.T) {
	for last, want := range []string{
		"0000111122223333",
		"0001111122223333",
		"0001111222223333",
		"0001111222233333",
	} {
		for length := range len(want) {
			level, e := flows.Level(queue, last, length)
			if e != api.OK || level != int(want[length]-'0') {
				t.Errorf("Level(%d, %d): %d, %d, not %c", last, length, level, e, want[length])
			}
		}
	}
}

// TestLevels gives all marks with small numbers, valid or not, all levels and lengths around them.
func TestLevels(t *testing.T) {
	valid := 0
	marks(-1, 5, func(m flows.Marks) {
		is := areMarks(m)
		if is {
			valid++
		}
		for last := -1; last <= 4; last++ {
			for length := -1; length <= 6; length++ {
				level, e := flows.Level(m, last, length)
				if !is || last < 0 || last > 3 || length < 0 {
					if level != 0 || e != api.ErrArg {
						t.Fatalf("Level(%v, %d, %d): %d, %d", m, last, length, level, e)
					}
				} else if level != closest(m, last, length) || e != api.OK {
					t.Fatalf("Level(%v, %d, %d): %d, %d", m, last, length, level, e)
				}
			}
		}
		if got, e := flows.Levels(m); is && e != api.OK || !is && e != api.ErrArg || len(got) != 0 {
			t.Fatalf("Levels(%v): %v, %d", m, got, e)
		}
	})
	if valid < 20 {
		t.Errorf("only %d marks are valid", valid)
	}
}

// TestInvalidLevels gives Level numbers that are far from valid ones.
func TestInvalidLevels(t *testing.T) {
	for _, last := range []int{math.MinInt, math.MinInt32, -256, -1, 4, 5, 256, 1 << 32, math.MaxInt} {
		if level, e := flows.Level(queue, last, 5); level != 0 || e != api.ErrArg {
			t.Errorf("Level(%d): %d, %d", last, level, e)
		}
	}
	for _, length := range []int{math.MinInt, math.MinInt32, -1 << 32, -2, -1} {
		for last := range 4 {
			if level, e := flows.Level(queue, last, length); level != 0 || e != api.ErrArg {
				t.Errorf("Level of the length %d: %d, %d", length, level, e)
			}
		}
		for _, lengths := range [][]int{{length}, {length, 5}, {5, length}, {5, length, 5}, {9, length, length}} {
			if got, e := flows.Levels(queue, lengths...); len(got) != 0 || e != api.ErrArg {
				t.Errorf("Levels(%v): %v, %d", lengths, got, e)
			}
		}
	}
}

// TestGreatNumbers gives marks and lengths the greatest integers.
func TestGreatNumbers(t *testing.T) {
	const n = math.MaxInt
	great := flows.Marks{Begin: [3]int{1, n - 1, n}, End: [3]int{0, n - 2, n - 1}}
	for length, want := range map[int]int{0: 0, 1: 1, n - 3: 1, n - 2: 1, n - 1: 2, n: 3} {
		for last := range 4 {
			if level, e := flows.Level(great, last, length); level != want || e != api.OK {
				t.Errorf("Level(%d, %d): %d, %d", last, length, level, e)
			}
		}
	}
	for i, m := range []flows.Marks{
		{Begin: [3]int{math.MinInt, 2, 3}},
		{Begin: [3]int{1, 2, 3}, End: [3]int{math.MinInt, 0, 0}},
		{Begin: [3]int{1, 2, math.MinInt}},
		{Begin: [3]int{n, n, n}},
		{Begin: [3]int{n - 2, n - 1, n}, End: [3]int{0, 0, n}},
	} {
		if got, e := flows.Levels(m, 1); len(got) != 0 || e != api.ErrArg {
			t.Errorf("marks %d: %v, %d", i, got, e)
		}
	}
	if got, e := flows.Levels(queue, n, 0, n); e != api.OK || !slices.Equal(got, []int{3, 0, 3}) {
		t.Errorf("%v, %d", got, e)
	}
}

// TestLevelsOneByOne compares Levels with Level for random lengths.
func TestLevelsOneByOne(t *testing.T) {
	var r random = 4
	for range 2000 {
		m := r.marks()
		lengths := make([]int, r.below(40))
		want := make([]int, len(lengths))
		last := 0
		for i := range lengths {
			lengths[i] = r.below(m.Begin[2] + 3)
			last = closest(m, last, lengths[i])
			want[i] = last
		}
		if got, e := flows.Levels(m, lengths...); e != api.OK || !slices.Equal(got, want) {
			t.Fatalf("Levels(%v, %v): %v, %d, not %v", m, lengths, got, e, want)
		}
	}
}

// marks returns valid marks.
func (r *random) marks() flows.Marks {
	var m flows.Marks
	begin, end := 0, 0
	for i := range 3 {
		begin += 1 + r.below(6)
		end += r.below(begin - end)
		m.Begin[i], m.End[i] = begin, end
	}
	return m
}

// R1, R3, R4

func TestMemory(t *testing.T) {
	lengths := []int{3, 4, 3, 2, 9, 7, 6, 20}
	given := slices.Clone(lengths)
	got, _ := flows.Levels(queue, given...)
	other, _ := flows.Levels(queue, given...)
	if cap(got) != len(got) || cap(other) != len(other) {
		t.Errorf("capacities %d and %d", cap(got), cap(other))
	}
	want := slices.Clone(other)
	for i := range got {
		got[i] = 99
	}
	if !slices.Equal(given, lengths) || !slices.Equal(other, want) {
		t.Errorf("%v, %v", given, other)
	}
	for i := range given {
		given[i] = 98
	}
	if !slices.Equal(other, want) {
		t.Errorf("%v", other)
	}
}

func TestNoLengths(t *testing.T) {
	for _, lengths := range [][]int{nil, {}, make([]int, 0, 5)} {
		if got, e := flows.Levels(queue, lengths...); len(got) != 0 || cap(got) != 0 || e != api.OK {
			t.Errorf("%v, %d", got, e)
		}
		if got, e := flows.Levels(flows.Marks{}, lengths...); len(got) != 0 || e != api.ErrArg {
			t.Errorf("without marks: %v, %d", got, e)
		}
	}
}

// P10.6

// TestLevelsThatStay checks when a level stays as it is.
func TestLevelsThatStay(t *testing.T) {
	marks(0, 6, func(m flows.Marks) {
		if !areMarks(m) {
			return
		}
		for last := range 4 {
			for length := range 9 {
				want := (last == 0 || length > m.End[last-1]) && (last == 3 || length < m.Begin[last])
				level, e := flows.Level(m, last, length)
				if e != api.OK || (level == last) != want {
					t.Fatalf("Level(%v, %d, %d): %d, %d", m, last, length, level, e)
				}
			}
		}
	})
}

// TestLevelsTwice gives each length twice in a row.
func TestLevelsTwice(t *testing.T) {
	var r random = 5
	for range 2000 {
		m := r.marks()
		var lengths []int
		for range 30 {
			n := r.below(m.Begin[2] + 3)
			lengths = append(lengths, n, n)
		}
		got, e := flows.Levels(m, lengths...)
		if e != api.OK || len(got) != len(lengths) {
			t.Fatalf("Levels(%v, %v): %v, %d", m, lengths, got, e)
		}
		for i := 0; i < len(got); i += 2 {
			if got[i] != got[i+1] {
				t.Fatalf("Levels(%v, %v): %v", m, lengths, got)
			}
		}
	}
}
