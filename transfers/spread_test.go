package transfers_test

import (
	"testing"

	"pointcode/api"
	"pointcode/plans"
	"pointcode/transfers"
)

// sent is a note on its way from a place to a neighbor.
type sent struct {
	from api.Point
	note note
}

// network has the tables of all places of a plan, and the notes that are on their way.
type network struct {
	of     plans.Plan
	tables map[api.Point]*transfers.Table
	down   map[[2]api.Point]bool // pairs of neighbors, the lower one first
	way    []sent
}

// newNetwork returns the network of a plan.
func newNetwork(t *testing.T, of plans.Plan) *network {
	t.Helper()
	w := &network{of: of, tables: map[api.Point]*transfers.Table{}, down: map[[2]api.Point]bool{}}
	for _, x := range of.Places {
		w.tables[x.Code] = newTable(t, of, x.Code)
	}
	return w
}

// key returns the pair of two places.
func key(x, y api.Point) [2]api.Point { return [2]api.Point{min(x, y), max(x, y)} }

// send puts the notes of a place on their way.
func (w *network) send(from api.Point, l []note) {
	for _, n := range l {
		w.way = append(w.way, sent{from, n})
	}
}

// arrive lets the first note on its way arrive.
func (w *network) arrive(t *testing.T) {
	t.Helper()
	x := w.way[0]
	w.way = w.way[1:]
	heard := note{To: x.from, About: x.note.About, Status: x.note.Status}
	if e := w.tables[x.note.To].Hear(heard); e != api.OK {
		t.Fatalf("Hear(%v) at %d is %d", heard, x.note.To, e)
	}
}

// fail makes two neighbors down for each other. What is on its way between them is lost.
func (w *network) fail(t *testing.T, x, y api.Point) {
	t.Helper()
	ok(t, w.tables[x].Down(y))
	ok(t, w.tables[y].Down(x))
	w.down[key(x, y)] = true
	var rest []sent
	for _, s := range w.way {
		if key(s.from, s.note.To) != key(x, y) {
			rest = append(rest, s)
		}
	}
	w.way = rest
}

// restore makes two neighbors up for each other, which may greet each other before.
func (w *network) restore(t *testing.T, x, y api.Point, greet bool) {
	t.Helper()
	for _, pair := range [][2]api.Point{{x, y}, {y, x}} {
		if greet {
			l, e := w.tables[pair[0]].Greet(pair[1])
			ok(t, e)
			w.send(pair[0], l)
		}
		ok(t, w.tables[pair[0]].Up(pair[1]))
	}
	delete(w.down, key(x, y))
}

// settle lets all tables tell and hear until nothing is told any more. It must end: heights fall along choices.
func (w *network) settle(t *testing.T) {
	t.Helper()
	for rounds := 0; ; rounds++ {
		for _, x := range w.of.Places {
			w.send(x.Code, w.tables[x.Code].Tell())
			wantNotes(t, "Tell again", w.tables[x.Code].Tell())
		}
		if len(w.way) == 0 {
			return
		}
		if rounds > 4*len(w.of.Places) {
			t.Fatalf("%d notes are on their way after %d rounds", len(w.way), rounds)
		}
		for len(w.way) > 0 {
			w.arrive(t)
		}
	}
}

// leads reports whether a sequence of choices between places that are up leads from a place to another one.
func (w *network) leads(at, to api.Point) bool {
	if at == to {
		return true
	}
	choices, _ := plans.Choices(w.of, at, to)
	for _, c := range choices {
		if !w.down[key(at, c.Next)] && w.leads(c.Next, to) {
			return true
		}
	}
	return false
}

// check checks what all places know when nothing is told any more.
func (w *network) check(t *testing.T) {
	t.Helper()
	for _, x := range w.of.Places {
		for _, y := range w.of.Places {
			if x.Code == y.Code {
				continue
			}
			is, e := w.tables[x.Code].Statuses(y.Code)
			some := false
			for _, s := range is {
				some = some || s != p
			}
			status, f := w.tables[x.Code].Status(y.Code)
			if want := w.leads(x.Code, y.Code); some != want || (status != p) != want || e != api.OK || f != api.OK {
				t.Fatalf("at %d the statuses for %d are %d (%d) and %d (%d), %t; down are %v in %v", x.Code, y.Code, is, e, status, f, want, w.down, w.of)
			}
		}
	}
}

// TestSpread lets neighbors of many plans be down and up again, and checks what all places know then. (P15.7)
func TestSpread(t *testing.T) {
	var rnd random
	fixed := []plans.Plan{example(), ladder(), chain(6), full(6)}
	for k := range 250 {
		of := rnd.plan(9)
		if k < len(fixed) {
			of = fixed[k]
		}
		if len(of.Lines) == 0 {
			continue
		}
		w := newNetwork(t, of)
		w.settle(t)
		w.check(t)
		for range 30 {
			for range 1 + rnd.below(4) {
				l := of.Lines[rnd.below(len(of.Lines))].Link
				if w.down[key(l.A, l.B)] {
					w.restore(t, l.A, l.B, rnd.below(2) == 0)
				} else {
					w.fail(t, l.A, l.B)
				}
				// Some tell, and some of it arrives, before the next neighbors change.
				x := of.Places[rnd.below(len(of.Places))].Code
				w.send(x, w.tables[x].Tell())
				for len(w.way) > 0 && rnd.below(4) > 0 {
					w.arrive(t)
				}
			}
			w.settle(t)
			w.check(t)
		}
	}
}

// TestSpreadOfAll makes all sets of neighbors of some plans down, and all of them up again. (P15.7)
func TestSpreadOfAll(t *testing.T) {
	for _, of := range []plans.Plan{example(), chain(5), full(4), ladder()} {
		for set := range 1 << len(of.Lines) {
			w := newNetwork(t, of)
			for i, x := range of.Lines {
				if set>>i&1 == 1 {
					w.fail(t, x.Link.A, x.Link.B)
				}
			}
			w.settle(t)
			w.check(t)
			for i, x := range of.Lines {
				if set>>i&1 == 1 {
					w.restore(t, x.Link.A, x.Link.B, i%2 == 0)
				}
			}
			w.settle(t)
			w.check(t)
			w.checkAllowed(t)
		}
	}
}

// checkAllowed checks that all destinations with a choice are Allowed.
func (w *network) checkAllowed(t *testing.T) {
	t.Helper()
	for _, x := range w.of.Places {
		for _, y := range w.of.Places {
			if x.Code == y.Code {
				continue
			}
			is, _ := w.tables[x.Code].Statuses(y.Code)
			if s, _ := w.tables[x.Code].Status(y.Code); len(is) > 0 && s != a {
				t.Fatalf("at %d the status of %d is %d", x.Code, y.Code, s)
			}
		}
	}
}

// TestAllUp checks that the status of every destination with a choice is Allowed at first. (P15.7)
func TestAllUp(t *testing.T) {
	var rnd random
	for range 200 {
		of := rnd.plan(16)
		w := newNetwork(t, of)
		w.checkAllowed(t)
		w.settle(t)
		w.checkAllowed(t)
	}
}

// TestTellTwice checks that Tell called twice in a row returns nothing the second time. (P15.7)
func TestTellTwice(t *testing.T) {
	for n := range api.Point(6) {
		x := newTable(t, full(5), 1)
		for _, d := range []api.Point{2, 3, 4, 5} {
			if d <= n {
				ok(t, x.Down(d))
			}
		}
		x.Tell()
		wantNotes(t, "Tell again", x.Tell())
	}
}
