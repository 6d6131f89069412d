package transfers_test

import (
	"slices"
	"testing"

	"pointcode/api"
	"pointcode/plans"
	"pointcode/transfers"
)

// random is a generator of numbers that is the same in every run.
type random uint32

// below returns a number below n, which is at most 65536.
func (rnd *random) below(n int) int {
	*rnd = *rnd*1664525 + 1013904223
	return int(*rnd>>16) * n >> 16
}

// plan returns a plan of at most n places with any codes.
func (rnd *random) plan(n int) plans.Plan {
	out := plans.Plan{Rate: 1, Room: 4, Marks: [3]int{1, 2, 3}}
	transfer, density := 1+rnd.below(4), 1+rnd.below(8)
	code := rnd.below(3)
	for range 1 + rnd.below(n) {
		out.Places = append(out.Places, plans.Place{Code: api.Point(code), Transfer: rnd.below(4) < transfer})
		code += 1 + rnd.below(3)
	}
	for i, x := range out.Places {
		for _, y := range out.Places[i+1:] {
			if rnd.below(8) < density {
				out.Lines = append(out.Lines, line(x.Code, y.Code))
			}
		}
	}
	return out
}

// model is a table that follows the definitions, with a status for each pair of points.
type model struct {
	of         plans.Plan
	at         api.Point
	up         map[api.Point]bool
	told, said map[[2]api.Point]api.Status
}

// newModel returns the model of a place with all neighbors up.
func newModel(of plans.Plan, at api.Point) *model {
	m := &model{of, at, map[api.Point]bool{}, map[[2]api.Point]api.Status{}, map[[2]api.Point]api.Status{}}
	for _, n := range m.neighbors() {
		m.up[n] = true
	}
	return m
}

func (m *model) neighbors() []api.Point {
	l, _ := plans.Neighbors(m.of, m.at)
	return l
}

func (m *model) isNeighbor(n api.Point) bool { return slices.Contains(m.neighbors(), n) }

func (m *model) isPlace(n api.Point) bool {
	return slices.ContainsFunc(m.of.Places, func(x plans.Place) bool { return x.Code == n })
}

func (m *model) transfers() bool {
	i, _ := plans.Index(m.of, m.at)
	return m.of.Places[i].Transfer
}

// statuses returns the statuses of choices.
func (m *model) statuses(to api.Point) []api.Status {
	var out []api.Status
	choices, _ := plans.Choices(m.of, m.at, to)
	for _, c := range choices {
		s := m.told[[2]api.Point{c.Next, to}]
		if c.Next == to {
			s = a
		}
		if !m.up[c.Next] {
			s = p
		}
		out = append(out, s)
	}
	return out
}

// status returns the status of a place.
func (m *model) status(to api.Point) api.Status {
	if to == m.at {
		return a
	}
	choices, _ := plans.Choices(m.of, m.at, to)
	is := m.statuses(to)
	all, first := true, false
	for i, c := range choices {
		smallest := true
		for _, d := range choices {
			smallest = smallest && c.Rank <= d.Rank
		}
		all = all && is[i] == p
		first = first || smallest && is[i] == a
	}
	switch {
	case all:
		return p
	case first:
		return a
	}
	return r
}

// notes returns the notes of Tell for some neighbors.
func (m *model) notes(to ...api.Point) []note {
	var out []note
	for _, n := range to {
		for _, x := range m.of.Places {
			if !m.transfers() || x.Code == n || x.Code == m.at {
				continue
			}
			key := [2]api.Point{n, x.Code}
			if s := m.status(x.Code); s != m.said[key] {
				m.said[key] = s
				out = append(out, note{To: n, About: x.Code, Status: s})
			}
		}
	}
	return out
}

// those returns the neighbors that are up.
func (m *model) those() []api.Point {
	return slices.DeleteFunc(m.neighbors(), func(n api.Point) bool { return !m.up[n] })
}

func (m *model) hear(n note) api.Errno {
	switch {
	case !m.isNeighbor(n.To), !m.isPlace(n.About):
		return api.ErrNone
	case n.Status > 2, n.About == m.at, n.About == n.To:
		return api.ErrArg
	}
	m.told[[2]api.Point{n.To, n.About}] = n.Status
	return api.OK
}

func (m *model) down(n api.Point) {
	m.up[n] = false
	for _, x := range m.of.Places {
		m.told[[2]api.Point{n, x.Code}] = a
		m.said[[2]api.Point{n, x.Code}] = a
	}
}

func (m *model) ask() []note {
	var out []note
	for _, n := range m.those() {
		for _, x := range m.of.Places {
			if s := m.told[[2]api.Point{n, x.Code}]; s != a {
				out = append(out, note{To: n, About: x.Code, Status: s})
			}
		}
	}
	return out
}

func (m *model) answer(n note) (note, bool) {
	if !m.transfers() || !m.up[n.To] || !m.isPlace(n.About) || n.About == m.at || n.About == n.To || m.status(n.About) == n.Status {
		return note{}, false
	}
	n.Status = m.status(n.About)
	m.said[[2]api.Point{n.To, n.About}] = n.Status
	return n, true
}

// step does the same with a table and its model, and compares the results.
func (m *model) step(t *testing.T, x *transfers.Table, kind int, n note) {
	t.Helper()
	is := m.isNeighbor(n.To)
	want := api.OK
	if !is {
		want = api.ErrNone
	}
	switch kind {
	case 0:
		if e := x.Up(n.To); e != want {
			t.Fatalf("Up(%d) is %d, not %d", n.To, e, want)
		}
		if is {
			m.up[n.To] = true
		}
	case 1:
		if e := x.Down(n.To); e != want {
			t.Fatalf("Down(%d) is %d, not %d", n.To, e, want)
		}
		if is {
			m.down(n.To)
		}
	case 2:
		wantNotes(t, "Tell", x.Tell(), m.notes(m.those()...)...)
	case 3:
		l, e := x.Greet(n.To)
		if e != want {
			t.Fatalf("Greet(%d) is %d, not %d", n.To, e, want)
		}
		var notes []note
		if is {
			notes = m.notes(n.To)
		}
		wantNotes(t, "Greet", l, notes...)
	case 4:
		wantNotes(t, "Ask", x.Ask(), m.ask()...)
	case 5:
		got, ok := x.Answer(n)
		if expected, isThere := m.answer(n); got != expected || ok != isThere {
			t.Fatalf("Answer(%v) is %v, %t, not %v, %t", n, got, ok, expected, isThere)
		}
	default:
		want := m.hear(n)
		if e := x.Hear(n); e != want {
			t.Fatalf("Hear(%v) is %d, not %d", n, e, want)
		}
	}
}

// compare compares all statuses of a table with those of its model.
func (m *model) compare(t *testing.T, x *transfers.Table) {
	t.Helper()
	for _, to := range m.of.Places {
		wantStatus(t, x, to.Code, m.status(to.Code))
		if to.Code != m.at {
			wantStatuses(t, x, to.Code, m.statuses(to.Code)...)
		}
	}
}

// TestModel does the same with tables of many plans and their models. (P15.2 to P15.6)
func TestModel(t *testing.T) {
	var rnd random
	for range 300 {
		of := rnd.plan(8)
		before := plans.Plan{Places: slices.Clone(of.Places), Lines: slices.Clone(of.Lines), Rate: of.Rate, Room: of.Room, Marks: of.Marks}
		// A code that is no place is met now and then.
		code := func() api.Point {
			if rnd.below(12) == 0 {
				return api.Point(rnd.below(65536))
			}
			return of.Places[rnd.below(len(of.Places))].Code
		}
		at := of.Places[rnd.below(len(of.Places))].Code
		x, m := newTable(t, of, at), newModel(of, at)
		for range 150 {
			n := note{To: code(), About: code(), Status: api.Status(rnd.below(13) / 4)}
			m.step(t, x, rnd.below(12), n)
			m.compare(t, x)
			if t.Failed() {
				t.Fatalf("at %d of %v", at, of)
			}
		}
		if !plans.Same(of, before) {
			t.Fatal("the plan has changed")
		}
	}
}
