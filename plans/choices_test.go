package plans_test

import (
	"cmp"
	"slices"
	"testing"

	"pointcode/api"
	"pointcode/plans"
)

// P13.2

func TestNeighbors(t *testing.T) {
	p := example()
	for at, want := range map[api.Point][]api.Point{1: {2, 3}, 2: {1, 3, 4}, 3: {1, 2, 4}, 4: {2, 3}} {
		if l, e := plans.Neighbors(p, at); e != api.OK || !slices.Equal(l, want) {
			t.Errorf("Neighbors(%d) is %d, %d", at, l, e)
		}
	}
	if l, e := plans.Neighbors(smallest(), 0); e != api.OK || len(l) != 0 {
		t.Errorf("Neighbors of a lone place is %d, %d", l, e)
	}
}

// several returns a plan in which two places have several links.
func several() plans.Plan {
	p := example()
	p.Places = append(p.Places, plans.Place{Code: 9})
	p.Lines = []plans.Line{line(1, 2, 3, 5), line(1, 3, 0, 1), line(1, 3, 7, 2), line(1, 3, 15, 3), line(2, 3, 15, 4), line(3, 4, 1, 6), line(3, 4, 2, 7)}
	return p
}

func TestNeighborsOfSeveral(t *testing.T) {
	for at, want := range map[api.Point][]api.Point{1: {2, 3}, 2: {1, 3}, 3: {1, 2, 4}, 4: {3}, 9: {}} {
		if l, e := plans.Neighbors(several(), at); e != api.OK || !slices.Equal(l, want) {
			t.Errorf("Neighbors(%d) is %d, %d", at, l, e)
		}
	}
}

func TestLinks(t *testing.T) {
	for _, x := range []struct {
		a, b api.Point
		want []api.Link
		err  api.Errno
	}{
		{1, 2, []api.Link{{A: 1, B: 2, Code: 3}}, api.OK},
		{2, 1, []api.Link{{A: 1, B: 2, Code: 3}}, api.OK},
		{1, 3, []api.Link{{A: 1, B: 3}, {A: 1, B: 3, Code: 7}, {A: 1, B: 3, Code: 15}}, api.OK},
		{3, 1, []api.Link{{A: 1, B: 3}, {A: 1, B: 3, Code: 7}, {A: 1, B: 3, Code: 15}}, api.OK},
		{4, 3, []api.Link{{A: 3, B: 4, Code: 1}, {A: 3, B: 4, Code: 2}}, api.OK},
		{2, 4, nil, api.OK},
		{4, 1, nil, api.OK},
		{1, 9, nil, api.OK},
		{1, 1, nil, api.ErrArg},
		{9, 9, nil, api.ErrArg},
		{5, 5, nil, api.ErrNone},
		{16384, 16384, nil, api.ErrNone},
		{1, 5, nil, api.ErrNone},
		{5, 1, nil, api.ErrNone},
	} {
		if l, e := plans.Links(several(), x.a, x.b); e != x.err || !slices.Equal(l, x.want) {
			t.Errorf("Links(%d, %d) is %v, %d, not %v, %d", x.a, x.b, l, e, x.want, x.err)
		}
	}
}

// TestLinksOfPair gives a pair all of its links.
func TestLinksOfPair(t *testing.T) {
	p := example()
	p.Lines = nil
	var want []api.Link
	for code := range uint8(16) {
		p.Lines = append(p.Lines, line(2, 4, code, 1))
		want = append(want, api.Link{A: 2, B: 4, Code: code})
	}
	if l, e := plans.Links(p, 4, 2); e != api.OK || !slices.Equal(l, want) {
		t.Errorf("Links is %v, %d", l, e)
	}
	if l, e := plans.Neighbors(p, 4); e != api.OK || !slices.Equal(l, []api.Point{2}) {
		t.Errorf("Neighbors is %d, %d", l, e)
	}
}

// areNeighbors reports whether two places are neighbors, from the definition.
func areNeighbors(p plans.Plan, a, b api.Point) bool {
	return slices.ContainsFunc(p.Lines, func(x plans.Line) bool {
		return x.Link.A == a && x.Link.B == b || x.Link.A == b && x.Link.B == a
	})
}

// table tells for each pair of places, by their indices, whether they are neighbors.
func table(p plans.Plan) [][]bool {
	out := make([][]bool, len(p.Places))
	for i, a := range p.Places {
		for _, b := range p.Places {
			out[i] = append(out[i], areNeighbors(p, a.Code, b.Code))
		}
	}
	return out
}

// TestNeighborsOfMany compares neighbors and links with the definition.
func TestNeighborsOfMany(t *testing.T) {
	var r random
	for k := range 200 {
		p := r.plan(4 + 60*(k%10/9))
		for _, a := range p.Places {
			var want []api.Point
			for _, b := range p.Places {
				if a.Code == b.Code {
					continue
				}
				if areNeighbors(p, a.Code, b.Code) {
					want = append(want, b.Code)
				}
				var links []api.Link
				for _, x := range p.Lines {
					if x.Link == (api.Link{A: min(a.Code, b.Code), B: max(a.Code, b.Code), Code: x.Link.Code}) {
						links = append(links, x.Link)
					}
				}
				if l, e := plans.Links(p, a.Code, b.Code); e != api.OK || !slices.Equal(l, links) {
					t.Fatalf("Links(%v, %d, %d) is %v, %d", p, a.Code, b.Code, l, e)
				}
			}
			if l, e := plans.Neighbors(p, a.Code); e != api.OK || !slices.Equal(l, want) {
				t.Fatalf("Neighbors(%v, %d) is %d, %d", p, a.Code, l, e)
			}
		}
	}
}

// P13.3

// shortest returns the least number of lines of a way, and −1 if there is none, by trying all ways that visit no place twice.
func shortest(p plans.Plan, near [][]bool, at, to int, visited uint64) int {
	if at == to {
		return 0
	}
	best := -1
	visited |= 1 << at
	for next, x := range p.Places {
		if visited>>next&1 == 1 || !near[at][next] || next != to && !x.Transfer {
			continue
		}
		if n := shortest(p, near, next, to, visited); n >= 0 && (best < 0 || n+1 < best) {
			best = n + 1
		}
	}
	return best
}

// relaxed returns the distances of places: those that no line makes shorter.
func relaxed(p plans.Plan, near [][]bool, to int) []int {
	const far = 1000
	out := slices.Repeat([]int{far}, len(p.Places))
	out[to] = 0
	for range p.Places {
		for i := range out {
			for j, x := range p.Places {
				if near[i][j] && (j == to || x.Transfer) {
					out[i] = min(out[i], out[j]+1)
				}
			}
		}
	}
	for i := range out {
		if out[i] >= far {
			out[i] = -1
		}
	}
	return out
}

// heightsFrom returns the heights of places: how many stand in front of each one.
func heightsFrom(distances []int) []int {
	out := slices.Repeat([]int{-1}, len(distances))
	for i, d := range distances {
		if d < 0 {
			continue
		}
		out[i] = 0
		for j, e := range distances {
			if e >= 0 && (e < d || e == d && j < i) {
				out[i]++
			}
		}
	}
	return out
}

// choicesFrom returns the choices at a place, from the definition.
func choicesFrom(p plans.Plan, near [][]bool, distances []int, at, to int) []plans.Choice {
	heights := heightsFrom(distances)
	var out []plans.Choice
	for i, x := range p.Places {
		if near[at][i] && heights[i] >= 0 && heights[i] < heights[at] && (x.Transfer || i == to) {
			out = append(out, plans.Choice{Next: x.Code, Rank: distances[i]})
		}
	}
	slices.SortStableFunc(out, func(a, b plans.Choice) int { return cmp.Compare(a.Rank, b.Rank) })
	return out
}

// checkWays compares distances, heights and choices for a destination with those from the definitions, and checks what follows from them (P13.7).
func checkWays(t *testing.T, p plans.Plan, near [][]bool, to int, want []int) {
	t.Helper()
	code := p.Places[to].Code
	distances, e := plans.Distances(p, code)
	if e != api.OK || !slices.Equal(distances, want) || cap(distances) != len(distances) {
		t.Fatalf("Distances(%v, %d) is %d, %d, not %d", p, code, distances, e, want)
	}
	heights, e := plans.Heights(p, code)
	if e != api.OK || !slices.Equal(heights, heightsFrom(want)) || cap(heights) != len(heights) {
		t.Fatalf("Heights(%v, %d) is %d, %d, not %d", p, code, heights, e, heightsFrom(want))
	}
	for at, x := range p.Places {
		choices, e := plans.Choices(p, x.Code, code)
		if at == to {
			if e != api.ErrArg || len(choices) != 0 {
				t.Fatalf("Choices(%v, %d, %d) is %v, %d", p, x.Code, code, choices, e)
			}
			continue
		}
		if e != api.OK || !slices.Equal(choices, choicesFrom(p, near, want, at, to)) || cap(choices) != len(choices) {
			t.Fatalf("Choices(%v, %d, %d) is %v, %d", p, x.Code, code, choices, e)
		}
		checkFalling(t, p, heights, at, choices)
		if (len(choices) > 0) != (distances[at] > 0) || len(choices) > 0 && choices[0].Rank != distances[at]-1 {
			t.Fatalf("Choices(%v, %d, %d) is %v at the distance %d", p, x.Code, code, choices, distances[at])
		}
	}
}

// checkFalling checks that choices lead to lower places.
func checkFalling(t *testing.T, p plans.Plan, heights []int, at int, choices []plans.Choice) {
	t.Helper()
	for _, c := range choices {
		if i, is := plans.Index(p, c.Next); !is || heights[i] < 0 || heights[i] >= heights[at] {
			t.Fatalf("a choice of %v leads from %d to %d", p, p.Places[at].Code, c.Next)
		}
	}
}

// small returns the plan of some places with the lines and the transfer places whose bits are set.
func small(codes []api.Point, lines, transfers int) plans.Plan {
	p := plans.Plan{Rate: 1, Room: 3, Marks: [3]int{1, 2, 3}}
	for i, code := range codes {
		p.Places = append(p.Places, plans.Place{Code: code, Transfer: transfers>>i&1 == 1})
	}
	for i, a := range codes {
		for _, b := range codes[i+1:] {
			if lines&1 == 1 {
				p.Lines = append(p.Lines, line(a, b, 0, 1))
			}
			lines >>= 1
		}
	}
	return p
}

// TestSmallPlans tries all plans of one to five places with at most one line for each pair.
func TestSmallPlans(t *testing.T) {
	all := []api.Point{0, 3, 8, 2057, 16383}
	for n := range all {
		codes := all[len(all)-1-n:]
		for lines := range 1 << (n * (n + 1) / 2) {
			near := table(small(codes, lines, 0))
			for transfers := range 2 << n {
				p := small(codes, lines, transfers)
				for to := range p.Places {
					var want []int
					for at := range p.Places {
						want = append(want, shortest(p, near, at, to, 0))
					}
					checkWays(t, p, near, to, want)
				}
			}
		}
	}
}

// TestLargePlans tries plans of up to 64 places.
func TestLargePlans(t *testing.T) {
	var r random
	all := []plans.Plan{largest(), chain(64), star(64), example(), several()}
	for k := range 60 {
		all = append(all, r.plan([]int{7, 12, 25, 64}[k%4]))
	}
	for _, p := range all {
		near := table(p)
		for to := range p.Places {
			checkWays(t, p, near, to, relaxed(p, near, to))
		}
	}
}

// chain returns the plan of n transfer places of which each one has a line with the next one.
func chain(n int) plans.Plan {
	p := smallest()
	p.Places = nil
	for i := range api.Point(n) {
		p.Places = append(p.Places, plans.Place{Code: i, Transfer: true})
		if i > 0 {
			p.Lines = append(p.Lines, line(i-1, i, 0, 1))
		}
	}
	return p
}

// star returns the plan of n places of which only the last one transfers, and has a line with each other one.
func star(n int) plans.Plan {
	p := chain(n)
	p.Lines = nil
	for i := range n - 1 {
		p.Places[i].Transfer = false
		p.Lines = append(p.Lines, line(api.Point(i), api.Point(n-1), 0, 1))
	}
	return p
}

func TestExample(t *testing.T) {
	p := example()
	if l, e := plans.Distances(p, 4); e != api.OK || !slices.Equal(l, []int{2, 1, 1, 0}) {
		t.Errorf("Distances is %d, %d", l, e)
	}
	if l, e := plans.Heights(p, 4); e != api.OK || !slices.Equal(l, []int{3, 1, 2, 0}) {
		t.Errorf("Heights is %d, %d", l, e)
	}
	for at, want := range map[api.Point][]plans.Choice{
		1: {{Next: 2, Rank: 1}, {Next: 3, Rank: 1}},
		2: {{Next: 4, Rank: 0}},
		3: {{Next: 4, Rank: 0}, {Next: 2, Rank: 1}},
	} {
		if l, e := plans.Choices(p, at, 4); e != api.OK || !slices.Equal(l, want) {
			t.Errorf("Choices(%d, 4) is %v, %d", at, l, e)
		}
	}
}

// TestEndBetween has an end between two places: nothing goes through it, and the place behind it has no height.
func TestEndBetween(t *testing.T) {
	p := example()
	p.Lines = []plans.Line{line(1, 2, 0, 1), line(1, 4, 0, 1)}
	if l, e := plans.Distances(p, 4); e != api.OK || !slices.Equal(l, []int{1, -1, -1, 0}) {
		t.Errorf("Distances is %d, %d", l, e)
	}
	if l, e := plans.Heights(p, 4); e != api.OK || !slices.Equal(l, []int{1, -1, -1, 0}) {
		t.Errorf("Heights is %d, %d", l, e)
	}
	if l, e := plans.Choices(p, 1, 4); e != api.OK || !slices.Equal(l, []plans.Choice{{Next: 4}}) {
		t.Errorf("Choices(1, 4) is %v, %d", l, e)
	}
	for _, at := range []api.Point{2, 3} {
		if l, e := plans.Choices(p, at, 4); e != api.OK || len(l) != 0 {
			t.Errorf("Choices(%d, 4) is %v, %d", at, l, e)
		}
	}
}

// TestEndAsDestination has a destination that does not transfer: it is still a choice.
func TestEndAsDestination(t *testing.T) {
	p := example()
	p.Lines = append(p.Lines[:2:2], append([]plans.Line{line(1, 4, 0, 1)}, p.Lines[2:]...)...)
	if l, e := plans.Choices(p, 3, 4); e != api.OK || !slices.Equal(l, []plans.Choice{{Next: 4}, {Next: 2, Rank: 1}}) {
		t.Errorf("Choices(3, 4) is %v, %d", l, e)
	}
	if l, e := plans.Choices(p, 1, 4); e != api.OK || !slices.Equal(l, []plans.Choice{{Next: 4}}) {
		t.Errorf("Choices(1, 4) is %v, %d", l, e)
	}
	if l, e := plans.Heights(p, 4); e != api.OK || !slices.Equal(l, []int{1, 2, 3, 0}) {
		t.Errorf("Heights is %d, %d", l, e)
	}
}

// P13.4

func TestChoicesErrors(t *testing.T) {
	for _, x := range []struct {
		at, to api.Point
		want   api.Errno
	}{{1, 1, api.ErrArg}, {4, 4, api.ErrArg}, {5, 5, api.ErrNone}, {16384, 16384, api.ErrNone}, {5, 1, api.ErrNone}, {1, 5, api.ErrNone}} {
		if l, e := plans.Choices(example(), x.at, x.to); len(l) != 0 || e != x.want {
			t.Errorf("Choices(%d, %d) is %v, %d, not %d", x.at, x.to, l, e, x.want)
		}
	}
	if l, e := plans.Choices(smallest(), 0, 0); len(l) != 0 || e != api.ErrArg {
		t.Errorf("Choices at a lone place is %v, %d", l, e)
	}
}

// TestChoicesOfRanks has choices whose ranks are not in the order of their codes.
func TestChoicesOfRanks(t *testing.T) {
	p := smallest()
	p.Places = nil
	for i := range api.Point(6) {
		p.Places = append(p.Places, plans.Place{Code: i, Transfer: i > 0})
	}
	p.Lines = []plans.Line{line(0, 1, 0, 1), line(0, 2, 0, 1), line(0, 3, 0, 1), line(0, 4, 0, 1), line(1, 2, 0, 1), line(1, 4, 0, 1), line(2, 4, 0, 1), line(3, 5, 0, 1), line(4, 5, 0, 1)}
	want := []plans.Choice{{Next: 3, Rank: 1}, {Next: 4, Rank: 1}}
	if l, e := plans.Choices(p, 0, 5); e != api.OK || !slices.Equal(l, want) {
		t.Errorf("Choices(0, 5) is %v, %d", l, e)
	}
	want = []plans.Choice{{Next: 4, Rank: 1}, {Next: 1, Rank: 2}}
	if l, e := plans.Choices(p, 2, 5); e != api.OK || !slices.Equal(l, want) {
		t.Errorf("Choices(2, 5) is %v, %d", l, e)
	}
}

// P13.7

// TestSequences follows all sequences of choices: each has fewer steps than there are places.
func TestSequences(t *testing.T) {
	var follow func(p plans.Plan, at, to api.Point) int
	follow = func(p plans.Plan, at, to api.Point) int {
		longest := 0
		choices, _ := plans.Choices(p, at, to)
		for _, c := range choices {
			longest = max(longest, 1+follow(p, c.Next, to))
		}
		return longest
	}
	var r random
	all := []plans.Plan{example(), several(), chain(12)}
	for range 60 {
		all = append(all, r.plan(7))
	}
	for _, p := range all {
		for _, at := range p.Places {
			for _, to := range p.Places {
				if n := follow(p, at.Code, to.Code); n >= len(p.Places) {
					t.Fatalf("%d steps from %d to %d in %v", n, at.Code, to.Code, p)
				}
			}
		}
	}
}

// R4

// TestResults checks that results are new memory, without any beyond their ends.
func TestResults(t *testing.T) {
	var r random
	for range 100 {
		p := r.plan(9)
		for _, at := range p.Places {
			for _, to := range p.Places {
				spoil(t, func() ([]api.Point, api.Errno) { return plans.Neighbors(p, at.Code) })
				spoil(t, func() ([]api.Link, api.Errno) { return plans.Links(p, at.Code, to.Code) })
				spoil(t, func() ([]int, api.Errno) { return plans.Distances(p, to.Code) })
				spoil(t, func() ([]int, api.Errno) { return plans.Heights(p, to.Code) })
				spoil(t, func() ([]plans.Choice, api.Errno) { return plans.Choices(p, at.Code, to.Code) })
			}
		}
	}
}

// spoil overwrites a result, and checks that it is returned again all the same.
func spoil[T comparable](t *testing.T, get func() ([]T, api.Errno)) {
	t.Helper()
	first, _ := get()
	second, _ := get()
	want := slices.Clone(first)
	clear(first)
	third, _ := get()
	if !slices.Equal(second, want) || !slices.Equal(third, want) || cap(second) != len(second) {
		t.Fatalf("%v, then %v with the capacity %d, then %v", want, second, cap(second), third)
	}
}
