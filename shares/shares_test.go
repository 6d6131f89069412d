package shares_test

import (
	"math"
	"slices"
	"testing"

	"pointcode/api"
	"pointcode/plans"
	"pointcode/shares"
)

// The statuses in short.
const (
	a = api.Allowed
	r = api.Restricted
	p = api.Prohibited
)

// choices returns choices with these ranks.
func choices(ranks ...int) []plans.Choice {
	var l []plans.Choice
	for i, rank := range ranks {
		l = append(l, plans.Choice{Next: api.Point(100 + i), Rank: rank})
	}
	return l
}

// links returns n links of a pair.
func links(n int) []api.Link {
	var l []api.Link
	for i := range n {
		l = append(l, api.Link{A: 1, B: 2, Code: uint8(i)})
	}
	return l
}

// statuses returns the statuses of these numbers.
func statuses(is ...api.Status) []api.Status { return is }

// same returns the same index for all sixteen selection codes.
func same(i int) []int { return slices.Repeat([]int{i}, 16) }

// bools returns n bools, those of the bits of a number.
func bools(n, bits int) []bool {
	var up []bool
	for i := range n {
		up = append(up, bits>>i&1 == 1)
	}
	return up
}

// random is a generator of numbers that is the same in every run.
type random uint32

// below returns a number below n, which is at most 65536.
func (rnd *random) below(n int) int {
	*rnd = *rnd*1664525 + 1013904223
	return int(*rnd>>16) * n >> 16
}

// nextOf returns the choice of a selection code, from the definitions.
func nextOf(l []plans.Choice, is []api.Status, sel uint8) (int, bool) {
	of := map[api.Status][]int{}
	for i := range l {
		if i < len(is) {
			of[is[i]] = append(of[is[i]], i)
		}
	}
	usable := of[api.Allowed]
	if len(usable) == 0 {
		usable = of[api.Restricted]
	}
	if len(usable) == 0 {
		return 0, false
	}
	rank := math.MaxInt
	for _, i := range usable {
		rank = min(rank, l[i].Rank)
	}
	var group, usableOfGroup []int
	for i, c := range l {
		if c.Rank == rank {
			group = append(group, i)
		}
	}
	for _, i := range usable {
		if slices.Contains(group, i) {
			usableOfGroup = append(usableOfGroup, i)
		}
	}
	s, n, u := int(sel)%16, len(group), len(usableOfGroup)
	if home := group[s%n]; slices.Contains(usable, home) {
		return home, true
	}
	return usableOfGroup[s/n%u], true
}

// rotated has the selection codes 0 to 15, rotated by two bits.
var rotated = [16]int{0, 4, 8, 12, 1, 5, 9, 13, 2, 6, 10, 14, 3, 7, 11, 15}

// linkOf returns the link of a selection code, from the definitions.
func linkOf(l []api.Link, up []bool, sel uint8) (int, bool) {
	var usable []int
	for i := range l {
		if i < len(up) && up[i] {
			usable = append(usable, i)
		}
	}
	if len(usable) == 0 {
		return 0, false
	}
	turned := rotated[sel%16]
	if home := turned % len(l); up[min(home, len(up)-1)] && home < len(up) {
		return home, true
	}
	return usable[turned/len(l)%len(usable)], true
}

// checkChoices compares Next for all bytes and Places with the definitions.
func checkChoices(t *testing.T, l []plans.Choice, is []api.Status) {
	t.Helper()
	var want []int
	for sel := range 256 {
		i, ok := nextOf(l, is, uint8(sel))
		if got, isThere := shares.Next(l, is, uint8(sel)); got != i || isThere != ok {
			t.Fatalf("Next(%v, %v, %d) = %d, %t instead of %d, %t", l, is, sel, got, isThere, i, ok)
		}
		if !ok {
			i = -1
		}
		want = append(want, i)
	}
	if got := shares.Places(l, is); !slices.Equal(got, want[:16]) {
		t.Fatalf("Places(%v, %v) = %v instead of %v", l, is, got, want[:16])
	}
}

// checkLinks compares Link for all bytes and Lines with the definitions.
func checkLinks(t *testing.T, l []api.Link, up []bool) {
	t.Helper()
	var want []int
	for sel := range 256 {
		i, ok := linkOf(l, up, uint8(sel))
		if got, isThere := shares.Link(l, up, uint8(sel)); got != i || isThere != ok {
			t.Fatalf("Link(%d links, %v, %d) = %d, %t instead of %d, %t", len(l), up, sel, got, isThere, i, ok)
		}
		if !ok {
			i = -1
		}
		want = append(want, i)
	}
	if got := shares.Lines(l, up); !slices.Equal(got, want[:16]) {
		t.Fatalf("Lines(%d links, %v) = %v instead of %v", len(l), up, got, want[:16])
	}
}

// P14.1 and P14.3: Next and Places

func TestPlacesOfExamples(t *testing.T) {
	l := choices(1, 1, 2)
	for _, x := range []struct {
		name string
		l    []plans.Choice
		is   []api.Status
		want []int
	}{
		{"the chapter's", l, statuses(a, a, a), []int{0, 1, 0, 1, 0, 1, 0, 1, 0, 1, 0, 1, 0, 1, 0, 1}},
		{"the first one prohibited", l, statuses(p, a, a), same(1)},
		{"the first two prohibited", l, statuses(p, p, a), same(2)},
		{"all prohibited", l, statuses(p, p, p), same(-1)},
		{"no status", l, nil, same(-1)},
		{"too few statuses", l, statuses(p), same(-1)},
		{"a missing status", l, statuses(p, a), same(1)},
		{"too many statuses", l, statuses(p, p, p, a), same(-1)},
		{"no choice", nil, nil, same(-1)},
		{"no choice, but statuses", nil, statuses(a, a), same(-1)},
		{"an allowed one behind restricted ones", l, statuses(r, r, a), same(2)},
		{"an allowed one before restricted ones", l, statuses(r, a, r), same(1)},
		{"restricted ones", l, statuses(r, r, r), []int{0, 1, 0, 1, 0, 1, 0, 1, 0, 1, 0, 1, 0, 1, 0, 1}},
		{"a restricted one", l, statuses(p, p, r), same(2)},
		{"a restricted one before a prohibited one", l, statuses(r, p, r), same(0)},
		{"statuses above prohibited", l, statuses(3, 255, a), same(2)},
		{"only statuses above prohibited", l, statuses(3, 128, 255), same(-1)},
		{"ranks that do not ascend", choices(2, 1, 2, 1), statuses(a, a, a, a), []int{1, 3, 1, 3, 1, 3, 1, 3, 1, 3, 1, 3, 1, 3, 1, 3}},
		{"the best ones, not the first ones", choices(2, 1, 2, 1), statuses(a, p, a, p), []int{0, 2, 0, 2, 0, 2, 0, 2, 0, 2, 0, 2, 0, 2, 0, 2}},
		{"negative ranks", choices(0, math.MinInt, -1), statuses(a, a, a), same(1)},
		{"the greatest ranks", choices(math.MaxInt, math.MaxInt), statuses(a, p), same(0)},
		{"the codes of a prohibited home", choices(1, 1, 1), statuses(p, a, a), []int{1, 1, 2, 2, 1, 2, 1, 1, 2, 2, 1, 2, 1, 1, 2, 2}},
		{"a restricted one of the group", choices(1, 1, 1), statuses(a, r, a), []int{0, 0, 2, 0, 2, 2, 0, 0, 2, 0, 2, 2, 0, 0, 2, 0}},
		{"more choices than codes", choices(make([]int, 18)...), make([]api.Status, 18), []int{0, 1, 2, 3, 4, 5, 6, 7, 8, 9, 10, 11, 12, 13, 14, 15}},
		{"homes beyond the codes", choices(make([]int, 18)...), append(slices.Repeat(statuses(p), 16), a, a), same(16)},
	} {
		if got := shares.Places(x.l, x.is); !slices.Equal(got, x.want) {
			t.Errorf("%s: Places = %v instead of %v", x.name, got, x.want)
		}
	}
}

func TestNextOfExamples(t *testing.T) {
	l := choices(1, 1, 1, 2)
	for _, x := range []struct {
		is   []api.Status
		sel  uint8
		want int
		ok   bool
	}{
		{statuses(a, a, a, a), 0, 0, true},
		{statuses(a, a, a, a), 5, 2, true},
		{statuses(a, a, a, a), 15, 0, true},
		{statuses(a, a, a, a), 16, 0, true},
		{statuses(a, a, a, a), 255, 0, true},
		{statuses(a, a, a, a), 20, 1, true},
		{statuses(a, a, p, a), 5, 1, true},
		{statuses(a, a, p, a), 8, 0, true},
		{statuses(p, p, p, a), 8, 3, true},
		{statuses(p, p, p, p), 8, 0, false},
		{nil, 1, 0, false},
	} {
		if i, ok := shares.Next(l, x.is, x.sel); i != x.want || ok != x.ok {
			t.Errorf("Next(%v, %d) = %d, %t instead of %d, %t", x.is, x.sel, i, ok, x.want, x.ok)
		}
	}
	if i, ok := shares.Next(nil, statuses(a), 1); i != 0 || ok {
		t.Errorf("Next of no choice = %d, %t", i, ok)
	}
}

// numbers returns all lists of n numbers below most.
func numbers(n, most int) [][]int {
	all := [][]int{nil}
	for range n {
		var longer [][]int
		for _, l := range all {
			for x := range most {
				longer = append(longer, append(slices.Clone(l), x))
			}
		}
		all = longer
	}
	return all
}

func TestAllShortChoices(t *testing.T) {
	most := []int{1, 3, 3, 3, 2}
	for n, ranks := range most {
		for _, l := range numbers(n, ranks) {
			for m := range n + 2 {
				for _, x := range numbers(m, 4) {
					var is []api.Status
					for _, status := range x {
						is = append(is, api.Status(status))
					}
					if n == 4 && m > 4 {
						continue
					}
					checkChoices(t, choices(l...), is)
				}
			}
		}
	}
}

func TestRandomChoices(t *testing.T) {
	rnd := random(14)
	extreme := []int{math.MinInt, math.MinInt + 1, -1, 0, 1, 63, 64, math.MaxInt - 1, math.MaxInt}
	for range 2000 {
		var l []plans.Choice
		var is []api.Status
		few, bad := 1+rnd.below(len(extreme)), rnd.below(4)
		for range rnd.below(40) {
			l = append(l, plans.Choice{Next: api.Point(rnd.below(65536)), Rank: extreme[rnd.below(few)]})
		}
		for range rnd.below(44) {
			is = append(is, []api.Status{p, worse(&rnd), a, api.Status(rnd.below(256))}[min(rnd.below(5), bad)])
		}
		checkChoices(t, l, is)
	}
}

// worse returns restricted or prohibited.
func worse(rnd *random) api.Status { return api.Restricted + api.Status(rnd.below(2)) }

// P14.2 and P14.3: Link and Lines

func TestLinesOfExamples(t *testing.T) {
	for _, x := range []struct {
		name string
		n    int
		up   []bool
		want []int
	}{
		{"one", 1, []bool{true}, same(0)},
		{"the chapter's two", 2, []bool{true, true}, []int{0, 0, 0, 0, 1, 1, 1, 1, 0, 0, 0, 0, 1, 1, 1, 1}},
		{"the chapter's three", 3, []bool{true, false, true}, []int{0, 2, 2, 0, 0, 2, 0, 0, 2, 0, 2, 2, 0, 0, 2, 0}},
		{"three", 3, []bool{true, true, true}, []int{0, 1, 2, 0, 1, 2, 0, 1, 2, 0, 1, 2, 0, 1, 2, 0}},
		{"the second one of two", 2, []bool{false, true}, same(1)},
		{"no state", 2, nil, same(-1)},
		{"a missing state", 2, []bool{true}, same(0)},
		{"too many states", 2, []bool{false, false, true}, same(-1)},
		{"none is up", 3, []bool{false, false, false}, same(-1)},
		{"no link", 0, nil, same(-1)},
		{"no link, but states", 0, []bool{true, true}, same(-1)},
		{"sixteen", 16, bools(16, 65535), rotated[:]},
		{"more links than codes", 17, bools(17, 131071), rotated[:]},
		{"links beyond the codes", 17, bools(17, 65536), same(16)},
	} {
		if got := shares.Lines(links(x.n), x.up); !slices.Equal(got, x.want) {
			t.Errorf("%s: Lines = %v instead of %v", x.name, got, x.want)
		}
	}
}

func TestLinkOfExamples(t *testing.T) {
	for _, x := range []struct {
		up   []bool
		sel  uint8
		want int
		ok   bool
	}{
		{[]bool{true, true, true}, 1, 1, true},
		{[]bool{true, true, true}, 5, 2, true},
		{[]bool{true, true, true}, 21, 2, true},
		{[]bool{true, true, true}, 255, 0, true},
		{[]bool{true, false, true}, 1, 2, true},
		{[]bool{true, false, true}, 9, 0, true},
		{[]bool{false, false, true}, 9, 2, true},
		{[]bool{false, false, false}, 9, 0, false},
		{nil, 9, 0, false},
	} {
		if i, ok := shares.Link(links(3), x.up, x.sel); i != x.want || ok != x.ok {
			t.Errorf("Link(%v, %d) = %d, %t instead of %d, %t", x.up, x.sel, i, ok, x.want, x.ok)
		}
	}
	if i, ok := shares.Link(nil, []bool{true}, 1); i != 0 || ok {
		t.Errorf("Link of no link = %d, %t", i, ok)
	}
}

func TestAllShortLinks(t *testing.T) {
	for n := range 8 {
		for m := range n + 2 {
			for bits := range 1 << m {
				checkLinks(t, links(n), bools(m, bits))
			}
		}
	}
}

func TestRandomLinks(t *testing.T) {
	rnd := random(41)
	for range 2000 {
		var up []bool
		few := 1 + rnd.below(8)
		for range rnd.below(44) {
			up = append(up, rnd.below(few) == 0)
		}
		checkLinks(t, links(rnd.below(40)), up)
	}
}

// Of links only the number counts, not what they are.
func TestLinksOfAnyKind(t *testing.T) {
	l := []api.Link{{}, {A: 9, B: 2, Code: 255}, {A: 65535, B: 65535}, {}}
	for bits := range 16 {
		up := bools(4, bits)
		if got, want := shares.Lines(l, up), shares.Lines(links(4), up); !slices.Equal(got, want) {
			t.Errorf("Lines of odd links, %v = %v instead of %v", up, got, want)
		}
	}
}

// P14.4: consequences

// checkLoss checks which codes move when the element x is lost, and that all of them return when it is back.
func checkLoss(t *testing.T, places func(usable []bool) []int, home func(sel int) int, n, bits, x int) {
	t.Helper()
	full := bools(n, bits)
	less := bools(n, bits&^(1<<x))
	before, during, after := places(full), places(less), places(bools(n, bits))
	for sel := range 16 {
		mayMove := before[sel] == x || !full[home(sel)]
		if before[sel] != during[sel] && !mayMove {
			t.Errorf("of %v, without %d: the code %d moves from %d to %d", full, x, sel, before[sel], during[sel])
		}
		if before[sel] == x && during[sel] == x {
			t.Errorf("of %v, without %d: the code %d stays", full, x, sel)
		}
		if before[sel] != after[sel] {
			t.Errorf("of %v, with %d again: the code %d is at %d instead of %d", full, x, sel, after[sel], before[sel])
		}
	}
}

// placesOf returns the places among choices of one rank, those that are not usable having a status; one of a greater rank follows.
func placesOf(n int, usable []bool, status api.Status) []int {
	var is []api.Status
	for i := range n {
		is = append(is, status)
		if usable[i] {
			is[i] = api.Allowed
		}
	}
	return shares.Places(append(choices(make([]int, n)...), plans.Choice{Rank: 1}), append(is, api.Restricted))
}

func TestLossOfOne(t *testing.T) {
	for n := 2; n <= 9; n++ {
		for bits := 1; bits < 1<<n; bits++ {
			for x := range n {
				if bits>>x&1 == 0 || bits == 1<<x {
					continue
				}
				home := func(sel int) int { return sel % n }
				for _, status := range statuses(r, p) {
					checkLoss(t, func(u []bool) []int { return placesOf(n, u, status) }, home, n, bits, x)
				}
				home = func(sel int) int { return rotated[sel] % n }
				checkLoss(t, func(u []bool) []int { return shares.Lines(links(n), u) }, home, n, bits, x)
			}
		}
	}
}

func TestEqualShares(t *testing.T) {
	for n := 1; n <= 40; n++ {
		all := slices.Repeat([]bool{true}, n)
		for name, places := range map[string][]int{"choices": placesOf(n, all, p), "links": shares.Lines(links(n), all)} {
			count := make([]int, n)
			for _, i := range places {
				count[i]++
			}
			if slices.Max(count)-slices.Min(count) > 1 {
				t.Errorf("%d %s have %v codes", n, name, count)
			}
		}
	}
}

// P1 and the rules R1, R3 and R4

func TestArgumentsStay(t *testing.T) {
	l, is := choices(1, 1, 2), statuses(p, a, r)
	k, up := links(3), []bool{false, true, true}
	for sel := range 16 {
		shares.Next(l, is, uint8(sel))
		shares.Link(k, up, uint8(sel))
	}
	shares.Places(l, is)
	shares.Lines(k, up)
	if !slices.Equal(l, choices(1, 1, 2)) || !slices.Equal(is, statuses(p, a, r)) {
		t.Error("the choices have changed:", l, is)
	}
	if !slices.Equal(k, links(3)) || !slices.Equal(up, []bool{false, true, true}) {
		t.Error("the links have changed:", k, up)
	}
}

func TestNilAndEmpty(t *testing.T) {
	if !slices.Equal(shares.Places([]plans.Choice{}, []api.Status{}), shares.Places(nil, nil)) {
		t.Error("Places of empty slices differ from those of nil")
	}
	if !slices.Equal(shares.Lines([]api.Link{}, []bool{}), shares.Lines(nil, nil)) {
		t.Error("Lines of empty slices differ from those of nil")
	}
	if !slices.Equal(shares.Places(choices(1), []api.Status{}), shares.Places(choices(1), nil)) {
		t.Error("Places with empty statuses differ from those with nil")
	}
	if !slices.Equal(shares.Lines(links(1), []bool{}), shares.Lines(links(1), nil)) {
		t.Error("Lines with empty states differ from those with nil")
	}
}

func TestResultsAreNew(t *testing.T) {
	for _, places := range []func() []int{
		func() []int { return shares.Places(choices(1, 1), statuses(a, a)) },
		func() []int { return shares.Places(nil, nil) },
		func() []int { return shares.Lines(links(2), []bool{true, true}) },
		func() []int { return shares.Lines(nil, nil) },
	} {
		first := places()
		want := slices.Clone(first)
		if cap(first) != len(first) {
			t.Error("the capacity is", cap(first))
		}
		first[3] = 77
		if got := places(); !slices.Equal(got, want) {
			t.Error("a result has changed to", got)
		}
	}
}

// Lists as long as memory allows are accepted; only the low bits of a code count there too.
func TestLongLists(t *testing.T) {
	const n = 100000
	l, is := make([]plans.Choice, n), slices.Repeat(statuses(p), n)
	k, up := make([]api.Link, n), make([]bool, n)
	is[n-1], up[n-1] = a, true
	if got := shares.Places(l, is); !slices.Equal(got, same(n-1)) {
		t.Error("Places of a long list:", got)
	}
	if got := shares.Lines(k, up); !slices.Equal(got, same(n-1)) {
		t.Error("Lines of a long list:", got)
	}
}
