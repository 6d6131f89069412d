package flows

import "pointcode/api"

// top is the greatest level, and the number of the marks of each kind.
const top = 3

// Marks are the lengths at which the levels of a queue begin, and those at which they end.
type Marks struct {
	Begin [3]int
	End   [3]int
}

// Level returns the level of a queue, given its last level and its length.
func Level(m Marks, last, length int) (int, api.Errno) {
	if !m.areValid() || last < 0 || last > top || length < 0 {
		return 0, api.ErrArg
	}
	return m.next(last, length), api.OK
}

// Levels returns the levels of a queue whose length changes.
func Levels(m Marks, lengths ...int) ([]int, api.Errno) {
	if !m.areValid() {
		return nil, api.ErrArg
	}
	out := make([]int, 0, len(lengths))
	last := 0
	for _, n := range lengths {
		if n < 0 {
			return nil, api.ErrArg
		}
		last = m.next(last, n)
		out = append(out, last)
	}
	return out, api.OK
}

// areValid reports whether marks are valid.
func (m Marks) areValid() bool {
	for i, begin := range m.Begin {
		end := m.End[i]
		if end < 0 || end >= begin {
			return false
		}
		if i > 0 && (begin <= m.Begin[i-1] || end < m.End[i-1]) {
			return false
		}
	}
	return true
}

// next returns the level behind the last one, given valid marks. As each level ends below its beginning, the least level that is possible is never above the greatest one.
func (m Marks) next(last, length int) int {
	least, greatest := 0, 0
	for i := range top {
		if length >= m.Begin[i] {
			least++
		}
		if length > m.End[i] {
			greatest++
		}
	}
	return max(least, min(last, greatest))
}
