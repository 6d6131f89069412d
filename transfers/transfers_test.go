package transfers_test

import (
	"slices"
	"testing"

	"pointcode/api"
	"pointcode/plans"
	"pointcode/transfers"
)

// The statuses in short.
const (
	a = api.Allowed
	r = api.Restricted
	p = api.Prohibited
)

// note is a note in short.
type note = transfers.Note

// line returns the only line between two places.
func line(x, y api.Point) plans.Line {
	return plans.Line{Link: api.Link{A: min(x, y), B: max(x, y)}, Delay: 1}
}

// plan returns a plan of the places 1 to n, of which only these transfer.
func plan(n int, transfer []api.Point, lines ...plans.Line) plans.Plan {
	out := plans.Plan{Lines: lines, Rate: 1, Room: 4, Marks: [3]int{1, 2, 3}}
	for i := range n {
		code := api.Point(i + 1)
		out.Places = append(out.Places, plans.Place{Code: code, Transfer: slices.Contains(transfer, code)})
	}
	return out
}

// example returns the plan of the example of chapter 13.
func example() plans.Plan {
	return plan(4, []api.Point{2, 3}, line(1, 2), line(1, 3), line(2, 3), line(2, 4), line(3, 4))
}

// ladder returns a plan of the ends 1 and 6 and two pairs of transfer places.
func ladder() plans.Plan {
	return plan(6, []api.Point{2, 3, 4, 5}, line(1, 2), line(1, 3), line(2, 3), line(2, 4), line(2, 5), line(3, 4), line(3, 5), line(4, 5), line(4, 6), line(5, 6))
}

// chain returns a plan of n places, each of which has lines to the ones next to it.
func chain(n int) plans.Plan {
	var inner []api.Point
	var lines []plans.Line
	for i := api.Point(1); int(i) < n; i++ {
		lines = append(lines, line(i, i+1))
		if i > 1 {
			inner = append(inner, i)
		}
	}
	return plan(n, inner, lines...)
}

// full returns a plan of n transfer places that are all neighbors.
func full(n int) plans.Plan {
	var all []api.Point
	var lines []plans.Line
	for i := api.Point(1); int(i) <= n; i++ {
		all = append(all, i)
		for j := i + 1; int(j) <= n; j++ {
			lines = append(lines, line(i, j))
		}
	}
	return plan(n, all, lines...)
}

// newTable returns the table of a place.
func newTable(t *testing.T, of plans.Plan, at api.Point) *transfers.Table {
	t.Helper()
	x, e := transfers.New(of, at)
	if e != api.OK || x == nil {
		t.Fatalf("New at %d is %v, %d", at, x, e)
	}
	return x
}

// ok checks that there is no error.
func ok(t *testing.T, e api.Errno) {
	t.Helper()
	if e != api.OK {
		t.Fatalf("error %d", e)
	}
}

// hear makes a table hear notes.
func hear(t *testing.T, x *transfers.Table, l ...note) {
	t.Helper()
	for _, n := range l {
		if e := x.Hear(n); e != api.OK {
			t.Fatalf("Hear(%v) is %d", n, e)
		}
	}
}

// wantStatus checks the status of a destination.
func wantStatus(t *testing.T, x *transfers.Table, to api.Point, want api.Status) {
	t.Helper()
	if s, e := x.Status(to); s != want || e != api.OK {
		t.Errorf("Status(%d) is %d, %d, not %d", to, s, e, want)
	}
}

// wantStatuses checks the statuses of the choices for a destination.
func wantStatuses(t *testing.T, x *transfers.Table, to api.Point, want ...api.Status) {
	t.Helper()
	if l, e := x.Statuses(to); !slices.Equal(l, want) || e != api.OK {
		t.Errorf("Statuses(%d) is %d, %d, not %d", to, l, e, want)
	}
}

// wantNotes checks notes, and that their capacity is their length (R4).
func wantNotes(t *testing.T, what string, l []note, want ...note) {
	t.Helper()
	if !slices.Equal(l, want) || cap(l) != len(l) {
		t.Errorf("%s is %v (capacity %d), not %v", what, l, cap(l), want)
	}
}

// wantGreet checks the notes of Greet.
func wantGreet(t *testing.T, x *transfers.Table, n api.Point, want ...note) {
	t.Helper()
	l, e := x.Greet(n)
	if e != api.OK {
		t.Errorf("Greet(%d) is %d", n, e)
	}
	wantNotes(t, "Greet", l, want...)
}

// TestExample follows the examples of the chapter.
func TestExample(t *testing.T) {
	x := newTable(t, example(), 1)
	wantStatuses(t, x, 4, a, a)
	hear(t, x, note{To: 2, About: 4, Status: p})
	wantStatuses(t, x, 4, p, a)
	wantStatus(t, x, 4, a)
	ok(t, x.Down(3))
	wantStatuses(t, x, 4, p, p)
	wantStatus(t, x, 4, p)

	x = newTable(t, example(), 2)
	ok(t, x.Down(4))
	wantStatus(t, x, 4, p)
	wantNotes(t, "Tell at 2", x.Tell(), note{To: 1, About: 4, Status: p}, note{To: 3, About: 4, Status: p})

	x = newTable(t, example(), 3)
	ok(t, x.Down(4))
	wantStatuses(t, x, 4, p, a)
	wantStatus(t, x, 4, r)
	wantNotes(t, "Tell at 3", x.Tell(), note{To: 1, About: 4, Status: r}, note{To: 2, About: 4, Status: r})
}

// TestNew checks new tables: every neighbor is up, and nothing has been told or said. (P15.1)
func TestNew(t *testing.T) {
	for _, of := range []plans.Plan{example(), ladder(), chain(5), full(5), plan(1, nil), plan(3, nil, line(1, 2)), chain(64)} {
		for _, at := range of.Places {
			x := newTable(t, of, at.Code)
			wantNotes(t, "Tell", x.Tell())
			wantNotes(t, "Ask", x.Ask())
			wantStatus(t, x, at.Code, a)
			for _, to := range of.Places {
				if to.Code == at.Code {
					continue
				}
				choices, _ := plans.Choices(of, at.Code, to.Code)
				wantStatuses(t, x, to.Code, make([]api.Status, len(choices))...)
				want := a
				if len(choices) == 0 {
					want = p
				}
				wantStatus(t, x, to.Code, want)
			}
		}
	}
}

// TestNewErrors checks that New returns the errors of plans.Neighbors. (P15.1)
func TestNewErrors(t *testing.T) {
	rated, marked, delayed, lost := example(), example(), example(), example()
	rated.Rate, marked.Marks[2], delayed.Lines[4].Delay = 0, 5, 65
	lost.Lines = append(lost.Lines, line(4, 5))
	for i, x := range []struct {
		of   plans.Plan
		at   api.Point
		want api.Errno
	}{
		{example(), 0, api.ErrNone},
		{example(), 5, api.ErrNone},
		{example(), 16384, api.ErrNone},
		{example(), 65535, api.ErrNone},
		{plans.Plan{}, 0, api.ErrArg},
		{chain(65), 1, api.ErrLimit},
		{chain(65), 66, api.ErrLimit},
		{rated, 1, api.ErrArg},
		{rated, 5, api.ErrArg},
		{marked, 1, api.ErrArg},
		{delayed, 1, api.ErrArg},
		{lost, 1, api.ErrNone},
		{lost, 5, api.ErrNone},
	} {
		table, e := transfers.New(x.of, x.at)
		_, want := plans.Neighbors(x.of, x.at)
		if table != nil || e != x.want || e != want {
			t.Errorf("New %d is %v, %d, not %d", i, table, e, x.want)
		}
	}
}

// TestNewKeepsNothing checks that a table does not change its plan, nor change with it. (R1)
func TestNewKeepsNothing(t *testing.T) {
	of := example()
	x := newTable(t, of, 2)
	if !plans.Same(of, example()) {
		t.Error("New changes its argument")
	}
	clear(of.Places)
	clear(of.Lines)
	wantStatuses(t, x, 4, a)
	ok(t, x.Down(4))
	wantNotes(t, "Tell", x.Tell(), note{To: 1, About: 4, Status: p}, note{To: 3, About: 4, Status: p})
	hear(t, x, note{To: 1, About: 4, Status: r})
	wantNotes(t, "Ask", x.Ask(), note{To: 1, About: 4, Status: r})
}

// TestUpDown checks what Up and Down do with neighbors. (P15.2)
func TestUpDown(t *testing.T) {
	x := newTable(t, ladder(), 3)
	wantStatuses(t, x, 6, a, a, a) // by 4, by 5 and, behind them, by 2
	ok(t, x.Down(5))
	wantStatuses(t, x, 6, a, p, a)
	wantStatus(t, x, 6, a)
	ok(t, x.Down(5))
	wantStatuses(t, x, 6, a, p, a)
	ok(t, x.Down(4))
	wantStatuses(t, x, 6, p, p, a)
	wantStatus(t, x, 6, r)
	ok(t, x.Down(2))
	wantStatuses(t, x, 6, p, p, p)
	wantStatus(t, x, 6, p)
	ok(t, x.Up(2))
	ok(t, x.Up(2))
	wantStatus(t, x, 6, r)
	ok(t, x.Up(5))
	wantStatuses(t, x, 6, p, a, a)
	wantStatus(t, x, 6, a)
}

// TestUpKeeps checks that Up changes neither what was told nor what was said. (P15.2)
func TestUpKeeps(t *testing.T) {
	x := newTable(t, ladder(), 3)
	hear(t, x, note{To: 4, About: 6, Status: p}, note{To: 5, About: 6, Status: r})
	wantStatuses(t, x, 6, p, r, a)
	told := note{To: 4, About: 6, Status: r}
	wantNotes(t, "Tell", x.Tell(), note{To: 1, About: 6, Status: r}, note{To: 2, About: 6, Status: r}, told, note{To: 5, About: 6, Status: r})
	for _, n := range []api.Point{1, 2, 4, 5} {
		ok(t, x.Up(n))
	}
	wantStatuses(t, x, 6, p, r, a)
	wantNotes(t, "Tell again", x.Tell())
	ok(t, x.Down(4))
	ok(t, x.Up(4))
	wantStatuses(t, x, 6, a, r, a)
	ok(t, x.Down(4))
	hear(t, x, note{To: 4, About: 6, Status: p})
	wantStatuses(t, x, 6, p, r, a)
	ok(t, x.Up(4))
	wantStatuses(t, x, 6, p, r, a)
	wantNotes(t, "Ask", x.Ask(), note{To: 4, About: 6, Status: p}, note{To: 5, About: 6, Status: r})
}

// TestDownForgets checks that Down forgets what was told and said, of this neighbor alone. (P15.2)
func TestDownForgets(t *testing.T) {
	x := newTable(t, full(5), 3)
	for _, n := range []api.Point{1, 2, 4, 5} {
		for _, about := range []api.Point{1, 2, 4, 5} {
			if n != about {
				hear(t, x, note{To: n, About: about, Status: r})
			}
		}
	}
	ok(t, x.Down(1))
	wantNotes(t, "Tell", x.Tell(), note{To: 2, About: 1, Status: r}, note{To: 4, About: 1, Status: r}, note{To: 5, About: 1, Status: r})
	ok(t, x.Down(4))
	ok(t, x.Down(5))
	ok(t, x.Up(4))
	wantNotes(t, "Ask", x.Ask(), note{To: 2, About: 1, Status: r}, note{To: 2, About: 4, Status: r}, note{To: 2, About: 5, Status: r})
	wantNotes(t, "Tell again", x.Tell(), note{To: 2, About: 5, Status: r}, note{To: 4, About: 1, Status: r}, note{To: 4, About: 5, Status: r})
	ok(t, x.Up(5))
	wantNotes(t, "Ask again", x.Ask(), note{To: 2, About: 1, Status: r}, note{To: 2, About: 4, Status: r}, note{To: 2, About: 5, Status: r})
}

// TestDownOfDown checks that Down forgets also what was told and said while the neighbor was not up. (P15.2)
func TestDownOfDown(t *testing.T) {
	x := newTable(t, example(), 2)
	ok(t, x.Down(4))
	ok(t, x.Down(3))
	hear(t, x, note{To: 3, About: 1, Status: p})
	wantGreet(t, x, 3, note{To: 3, About: 4, Status: p})
	wantGreet(t, x, 3)
	ok(t, x.Down(3))
	wantGreet(t, x, 3, note{To: 3, About: 4, Status: p})
	ok(t, x.Up(3))
	wantNotes(t, "Ask", x.Ask())
}

// TestNeighborErrors checks the points that are not neighbors. (P15.2, P15.3, P15.5)
func TestNeighborErrors(t *testing.T) {
	for at, others := range map[api.Point][]api.Point{1: {0, 1, 4, 5, 16384, 65535}, 2: {0, 2, 5}, 4: {0, 1, 4, 5}} {
		x := newTable(t, example(), at)
		for _, n := range others {
			l, e := x.Greet(n)
			if up, down, hears := x.Up(n), x.Down(n), x.Hear(note{To: n, About: 3}); up != api.ErrNone || down != api.ErrNone || hears != api.ErrNone || l != nil || e != api.ErrNone {
				t.Errorf("at %d: Up(%d) is %d, Down %d, Hear %d, Greet %v, %d", at, n, up, down, hears, l, e)
			}
		}
	}
}

// TestHear checks what is recorded. (P15.3)
func TestHear(t *testing.T) {
	x := newTable(t, ladder(), 4)
	// The neighbor need not be a choice for the destination.
	hear(t, x, note{To: 6, About: 1, Status: p}, note{To: 3, About: 1, Status: r}, note{To: 2, About: 1, Status: p}, note{To: 2, About: 6, Status: p})
	wantStatuses(t, x, 1, p, r)
	wantStatus(t, x, 1, r)
	wantNotes(t, "Ask", x.Ask(), note{To: 2, About: 1, Status: p}, note{To: 2, About: 6, Status: p}, note{To: 3, About: 1, Status: r}, note{To: 6, About: 1, Status: p})
	hear(t, x, note{To: 2, About: 1, Status: r}, note{To: 3, About: 1, Status: p}, note{To: 6, About: 1})
	wantStatuses(t, x, 1, r, p)
	hear(t, x, note{To: 2, About: 1}, note{To: 2, About: 6})
	wantStatuses(t, x, 1, a, p)
	wantStatus(t, x, 1, a)
	wantNotes(t, "Ask", x.Ask(), note{To: 3, About: 1, Status: p})
}

// TestHearErrors checks the notes that are not valid, and that they change nothing. (P15.3)
func TestHearErrors(t *testing.T) {
	x := newTable(t, ladder(), 4)
	for n, want := range map[note]api.Errno{
		{To: 1, About: 6, Status: r}:       api.ErrNone, // not a neighbor
		{To: 4, About: 6, Status: r}:       api.ErrNone, // the place itself
		{To: 7, About: 6, Status: r}:       api.ErrNone,
		{To: 5, About: 7, Status: r}:       api.ErrNone, // not a place
		{To: 5, About: 0, Status: r}:       api.ErrNone,
		{To: 5, About: 16388, Status: r}:   api.ErrNone,
		{To: 5, About: 7, Status: 3}:       api.ErrNone,
		{To: 1, About: 6, Status: 3}:       api.ErrNone,
		{To: 1, About: 4, Status: r}:       api.ErrNone,
		{To: 1, About: 1, Status: r}:       api.ErrNone,
		{To: 5, About: 6, Status: 3}:       api.ErrArg,
		{To: 5, About: 6, Status: 4}:       api.ErrArg,
		{To: 5, About: 6, Status: 255}:     api.ErrArg,
		{To: 5, About: 4, Status: r}:       api.ErrArg,
		{To: 5, About: 5, Status: r}:       api.ErrArg,
		{To: 5, About: 4, Status: a}:       api.ErrArg,
		{To: 5, About: 5, Status: a}:       api.ErrArg,
		{To: 5, About: 5, Status: 3}:       api.ErrArg,
		{To: 5, About: 1, Status: r}:       api.OK,
		{To: 6, About: 2, Status: p}:       api.OK,
		{To: 6, About: 3, Status: a}:       api.OK,
		{To: 65535, About: 6, Status: 255}: api.ErrNone,
	} {
		if e := x.Hear(n); e != want {
			t.Errorf("Hear(%v) is %d, not %d", n, e, want)
		}
	}
	wantNotes(t, "Ask", x.Ask(), note{To: 5, About: 1, Status: r}, note{To: 6, About: 2, Status: p})
}

// TestStatusOfAll checks the status of a destination for all statuses of its choices, of which two have the smallest rank. (P15.4)
func TestStatusOfAll(t *testing.T) {
	neighbors := []api.Point{4, 5, 2}
	const down = 3
	for k := range 4 * 4 * 4 {
		x := newTable(t, ladder(), 3)
		var is []api.Status
		for i, n := range neighbors {
			s := api.Status(k >> (2 * i) & 3)
			if s == down {
				ok(t, x.Down(n))
				// What is told meanwhile does not count.
				hear(t, x, note{To: n, About: 6, Status: api.Status(k % 3)})
				s = p
			} else {
				hear(t, x, note{To: n, About: 6, Status: s})
			}
			is = append(is, s)
		}
		want := r
		switch {
		case is[0] == p && is[1] == p && is[2] == p:
			want = p
		case is[0] == a || is[1] == a:
			want = a
		}
		wantStatuses(t, x, 6, is...)
		wantStatus(t, x, 6, want)
	}
}

// TestStatusOfNeighbor checks that the way to a neighbor itself is always Allowed while it is up. (P15.4)
func TestStatusOfNeighbor(t *testing.T) {
	x := newTable(t, example(), 3)
	hear(t, x, note{To: 2, About: 4, Status: p}, note{To: 2, About: 1, Status: p}, note{To: 1, About: 4, Status: p})
	wantStatuses(t, x, 4, a, p)
	wantStatus(t, x, 4, a)
	ok(t, x.Down(4))
	wantStatus(t, x, 4, p)
	hear(t, x, note{To: 2, About: 4, Status: r})
	wantStatus(t, x, 4, r)
	hear(t, x, note{To: 2, About: 4, Status: a})
	wantStatus(t, x, 4, r)
	ok(t, x.Up(4))
	wantStatus(t, x, 4, a)
}

// TestStatusWithoutWay checks destinations without a choice. (P15.4)
func TestStatusWithoutWay(t *testing.T) {
	// 2 does not transfer, so there is no way between 1 and 3; 4 has no line.
	of := plan(4, nil, line(1, 2), line(2, 3))
	x := newTable(t, of, 1)
	for _, to := range []api.Point{3, 4} {
		wantStatuses(t, x, to)
		wantStatus(t, x, to, p)
	}
	wantStatus(t, x, 2, a)
	hear(t, x, note{To: 2, About: 3})
	wantStatus(t, x, 3, p)
	x = newTable(t, of, 4)
	for _, to := range []api.Point{1, 2, 3} {
		wantStatuses(t, x, to)
		wantStatus(t, x, to, p)
	}
	wantStatus(t, x, 4, a)
}

// TestStatusErrors checks points that are not destinations. (P15.4)
func TestStatusErrors(t *testing.T) {
	x := newTable(t, example(), 2)
	for _, to := range []api.Point{1, 3, 4} {
		ok(t, x.Down(to))
	}
	wantStatus(t, x, 2, a)
	if l, e := x.Statuses(2); l != nil || e != api.ErrArg {
		t.Errorf("Statuses(2) is %d, %d", l, e)
	}
	for _, to := range []api.Point{0, 5, 16384, 16386, 65535} {
		s, e := x.Status(to)
		l, f := x.Statuses(to)
		if s != 0 || e != api.ErrNone || l != nil || f != api.ErrNone {
			t.Errorf("Status(%d) is %d, %d, and Statuses %d, %d", to, s, e, l, f)
		}
	}
}

// TestCodeZero checks that the places may have any codes.
func TestCodeZero(t *testing.T) {
	of := plans.Plan{
		Places: []plans.Place{{Code: 0, Transfer: true}, {Code: 5, Transfer: true}, {Code: 16383}},
		Lines:  []plans.Line{line(0, 5), line(5, 16383)},
		Rate:   1, Room: 3, Marks: [3]int{1, 2, 3},
	}
	x := newTable(t, of, 0)
	wantStatus(t, x, 0, a)
	if _, e := x.Statuses(0); e != api.ErrArg {
		t.Errorf("Statuses of itself is %d", e)
	}
	hear(t, x, note{To: 5, About: 16383, Status: p})
	wantNotes(t, "Ask", x.Ask(), note{To: 5, About: 16383, Status: p})
	wantNotes(t, "Tell", x.Tell(), note{To: 5, About: 16383, Status: p})
	x = newTable(t, of, 5)
	ok(t, x.Down(0))
	wantNotes(t, "Tell", x.Tell(), note{To: 16383, About: 0, Status: p})
	if n, is := x.Answer(note{To: 16383, About: 0}); n != (note{To: 16383, About: 0, Status: p}) || !is {
		t.Errorf("Answer is %v, %t", n, is)
	}
}

// TestEmpty checks the nil and the zero table. (R5)
func TestEmpty(t *testing.T) {
	for _, x := range []*transfers.Table{nil, {}} {
		for _, n := range []api.Point{0, 1, 65535} {
			l, greets := x.Greet(n)
			is, statuses := x.Statuses(n)
			s, status := x.Status(n)
			for i, e := range []api.Errno{x.Up(n), x.Down(n), x.Hear(note{To: n, About: 1, Status: 3}), greets, statuses, status} {
				if e != api.ErrNil {
					t.Errorf("error %d of %d is %d", i, n, e)
				}
			}
			if l != nil || is != nil || s != 0 {
				t.Errorf("Greet is %v, Statuses %v, Status %d", l, is, s)
			}
			if answer, is := x.Answer(note{To: n, About: 1, Status: p}); answer != (note{}) || is {
				t.Errorf("Answer is %v, %t", answer, is)
			}
		}
		if len(x.Tell()) != 0 || len(x.Ask()) != 0 {
			t.Errorf("Tell is %v and Ask %v", x.Tell(), x.Ask())
		}
	}
}
