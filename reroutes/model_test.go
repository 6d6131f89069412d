package reroutes_test

import (
	"math"
	"math/big"
	"reflect"
	"testing"

	"pointcode/api"
	"pointcode/changes"
	"pointcode/reroutes"
)

// random is a generator of numbers that is the same in every run.
type random uint32

// below returns a number below n, which is at most 65536.
func (rnd *random) below(n int) int {
	*rnd = *rnd*1664525 + 1013904223
	return int(*rnd>>16) * n >> 16
}

// event is what has happened to a gate: items have passed it, or its link was cut, or items were returned.
type event struct {
	kind string
	now  int
	way  reroutes.Way
}

// model is a gate that follows the definitions: it looks up everything in what has happened.
type model struct {
	hold    int
	held    []item
	history []event
}

// latest returns the index of the latest event of a kind, or -1.
func (m *model) latest(kind string) int {
	for i := len(m.history) - 1; i >= 0; i-- {
		if m.history[i].kind == kind {
			return i
		}
	}
	return -1
}

func (m *model) waits() bool { return m.latest("cut") > m.latest("return") }

func (m *model) isReleased() bool {
	return m.latest("return") > max(m.latest("cut"), m.latest("pass"))
}

func (m *model) way() (reroutes.Way, bool) {
	i := m.latest("pass")
	if i < 0 {
		return reroutes.Way{}, false
	}
	return m.history[i].way, true
}

// isOver reports whether a tick is at least the last one plus the hold time.
func (m *model) isOver(now int) bool {
	end := new(big.Int).Add(big.NewInt(int64(m.history[m.latest("pass")].now)), big.NewInt(int64(m.hold)))
	if most := big.NewInt(math.MaxInt); end.Cmp(most) > 0 {
		end = most
	}
	return big.NewInt(int64(now)).Cmp(end) >= 0
}

func (m *model) isFree(now int, w reroutes.Way) bool {
	last, is := m.way()
	if m.waits() {
		return false
	}
	return !is || w == last || m.isReleased() && w.Next == last.Next || m.isOver(now)
}

func (m *model) offer(x item) api.Errno {
	m.held = append(m.held, x)
	return api.OK
}

func (m *model) pass(now int, w reroutes.Way) []item {
	if len(m.held) == 0 || !m.isFree(now, w) {
		return nil
	}
	m.history = append(m.history, event{kind: "pass", now: now, way: w})
	return m.flush()
}

func (m *model) cut() api.Errno {
	if _, is := m.way(); !is || m.waits() {
		return api.ErrState
	}
	m.history = append(m.history, event{kind: "cut"})
	return api.OK
}

func (m *model) returnAll(l []item) api.Errno {
	if !m.waits() {
		return api.ErrState
	}
	m.history = append(m.history, event{kind: "return"})
	m.held = append(append([]item(nil), l...), m.held...)
	return api.OK
}

func (m *model) flush() []item {
	out := m.held
	m.held = nil
	return out
}

// act is one thing that is done with a gate: number is the tick of Pass, the number of the item of Offer, and how many items Return is given.
type act struct {
	kind, number int
	way          reroutes.Way
}

// step does the same with a gate and its model, and compares the results and what can be seen.
func (m *model) step(t *testing.T, g *gate, a act) bool {
	t.Helper()
	var got, want [2]any
	switch a.kind {
	case 0:
		got[0], want[0] = g.Offer(numbered(a.number)), m.offer(numbered(a.number))
	case 1:
		got[0], want[0] = some(g.Pass(a.number, a.way)), some(m.pass(a.number, a.way))
	case 2:
		got[0], want[0] = g.Cut(), m.cut()
	case 3:
		var l []item
		for n := range a.number {
			l = append(l, numbered(500+n))
		}
		got[0], want[0] = g.Return(l), m.returnAll(l)
	default:
		got[0], want[0] = some(g.Flush()), some(m.flush())
	}
	w, is := g.Way()
	last, must := m.way()
	got[1], want[1] = []any{w, is, g.Waits(), g.Len()}, []any{last, must, m.waits(), len(m.held)}
	if !reflect.DeepEqual(got, want) {
		t.Errorf("%v is %v, not %v", a, got, want)
		return false
	}
	return true
}

// some returns items, and nil if there are none.
func some(l []item) []item {
	if len(l) == 0 {
		return nil
	}
	return l
}

// TestShort does all short lists of acts with a gate and its model. (P17.1 to P17.6)
func TestShort(t *testing.T) {
	a, b, c := by(2, 0), by(2, 1), by(3, 0)
	acts := []act{{0, 1, a}, {1, 5, a}, {1, 6, b}, {1, 6, c}, {1, 7, c}, {1, 8, a}, {2, 0, a}, {3, 0, a}, {3, 2, a}, {4, 0, a}}
	for hold := range 3 {
		var list []act
		var extend func(left int)
		extend = func(left int) {
			g, m := made(t, hold), &model{hold: hold}
			for _, a := range list {
				if !m.step(t, g, a) {
					t.Fatalf("with the hold time %d after %v", hold, list)
				}
			}
			for i := 0; i < len(acts) && left > 0; i++ {
				list = append(list, acts[i])
				extend(left - 1)
				list = list[:len(list)-1]
			}
		}
		extend(5)
	}
}

// near returns a number that is equal to another one, or next to it, within the range of int.
func (rnd *random) near(n int) int {
	switch by := rnd.below(3) - 1; {
	case by > 0 && n == math.MaxInt, by < 0 && n == math.MinInt:
		return n
	default:
		return n + by
	}
}

// tick returns a tick that is often one that matters: one near the last one, or near the end of the hold time.
func (m *model) tick(rnd *random) int {
	last := 0
	if i := m.latest("pass"); i >= 0 {
		last = m.history[i].now
	}
	end := math.MaxInt
	if last <= math.MaxInt-m.hold {
		end = last + m.hold
	}
	switch rnd.below(12) {
	case 0:
		return []int{math.MinInt, math.MaxInt, 0}[rnd.below(3)]
	case 1, 2, 3:
		return rnd.near(last)
	default:
		return rnd.near(end)
	}
}

// TestLong does many acts with gates and their models. (P17.1 to P17.6)
func TestLong(t *testing.T) {
	var rnd random
	for range 500 {
		hold := []int{0, 1, 2, 10, 1 << 40, math.MaxInt}[rnd.below(6)]
		g, m := made(t, hold), &model{hold: hold}
		for range 200 {
			kind := []int{0, 0, 0, 0, 1, 1, 1, 1, 1, 2, 3, 3, 4}[rnd.below(13)]
			a := act{kind: kind, number: rnd.below(4), way: by(api.Point(2+rnd.below(2)), uint8(rnd.below(3)))}
			if kind == 1 {
				a.number = m.tick(&rnd)
			}
			if !m.step(t, g, a) {
				t.FailNow()
			}
		}
	}
}

// TestConsequences checks the order of the items, the ticks between passings to different places, and that no item is lost or doubled. (P17.7)
func TestConsequences(t *testing.T) {
	var rnd random
	for range 400 {
		hold := rnd.below(12)
		g := made(t, hold)
		var held, out []item // what must be held, and all that has passed last
		var last event
		given, gone := 0, 0
		for now := 0; now < 300; now += rnd.below(3) {
			switch rnd.below(8) {
			case 0:
				wantItems(t, "Flush", g.Flush(), numbersOf(held)...)
				gone, held = gone+len(held), nil
			case 1:
				g.Cut()
			case 2:
				// What is returned went out with the latest passing, as in a changeover.
				missing := out[rnd.below(len(out)+1):]
				if g.Waits() {
					wantError(t, "Return", g.Return(missing), api.OK)
					gone, held, out = gone-len(missing), append(append([]item(nil), missing...), held...), nil
				}
			case 3, 4, 5:
				w := by(api.Point(2+rnd.below(2)), uint8(rnd.below(2)))
				l := g.Pass(now, w)
				if len(l) == 0 {
					continue
				}
				wantItems(t, "Pass", l, numbersOf(held)...)
				if last.kind != "" && w.Next != last.way.Next && now-last.now < hold {
					t.Fatalf("%d ticks between %v and %v", now-last.now, last.way, w)
				}
				gone, held, out, last = gone+len(l), nil, l, event{"pass", now, w}
			default:
				given++
				offer(t, g, given)
				held = append(held, numbered(given))
			}
			if g.Len() != len(held) || given != gone+g.Len() {
				t.Fatalf("%d given, %d gone, %d held, not %d", given, gone, g.Len(), len(held))
			}
		}
	}
}

// numbersOf returns the numbers of items.
func numbersOf(l []item) []int {
	var out []int
	for _, m := range l {
		out = append(out, m.Number)
	}
	return out
}

// road is a link to a place, with the way from there to the destination.
type road struct {
	end, far *changes.End
	items    []item // what is under way
	arrivals []int  // the tick at which each of them arrives
}

// newRoad returns a road on which nothing is.
func newRoad() *road { return &road{end: changes.New(), far: changes.New()} }

// send puts items on the road.
func (r *road) send(t *testing.T, l []item, arrival int) {
	t.Helper()
	for _, m := range l {
		if _, e := r.end.Send(m); e != api.OK {
			t.Fatal("Send:", e)
		}
		r.items, r.arrivals = append(r.items, m), append(r.arrivals, arrival)
	}
}

// arrive returns what arrives at a tick.
func (r *road) arrive(t *testing.T, now int) []item {
	t.Helper()
	var out []item
	for len(r.arrivals) > 0 && r.arrivals[0] <= now {
		wantError(t, "Arrive", r.far.Arrive(r.far.Last()+1), api.OK)
		out = append(out, r.items[0])
		r.items, r.arrivals = r.items[1:], r.arrivals[1:]
	}
	return out
}

// fail cuts the road, and returns what has not arrived.
func (r *road) fail(t *testing.T, now int) []item {
	t.Helper()
	for _, x := range []*changes.End{r.end, r.far} {
		if _, e := x.Fail(now); e != api.OK {
			t.Fatal("Fail:", e)
		}
	}
	l, e := r.end.Told(r.far.Last())
	wantError(t, "Told", e, api.OK)
	*r = *newRoad()
	return l
}

// traffic is a flow that goes over roads to one of two places.
type traffic struct {
	rnd     random
	gate    *gate
	roads   map[reroutes.Way]*road
	choice  reroutes.Way
	given   int
	missing []item
}

// disturb lets the road of the last way fail, or changes the choice, or neither.
func (f *traffic) disturb(t *testing.T, now int) {
	t.Helper()
	next := api.Point(2 + f.rnd.below(2))
	if last, is := f.gate.Way(); is && !f.gate.Waits() && f.rnd.below(30) == 0 {
		f.missing = f.roads[last].fail(t, now)
		wantError(t, "Cut", f.gate.Cut(), api.OK)
		f.choice = by(next, uint8(f.rnd.below(3)))
	}
	if f.rnd.below(40) == 0 {
		f.choice = by(next, f.choice.Link.Code)
	}
	if f.rnd.below(2) == 0 {
		f.given++
		offer(t, f.gate, f.given)
	}
}

// tick returns the numbers of what arrives at a tick, ends the waiting or not, and sends what passes.
func (f *traffic) tick(t *testing.T, now, delay int) []int {
	t.Helper()
	var arrived []int
	for _, r := range f.roads {
		arrived = append(arrived, numbersOf(r.arrive(t, now))...)
	}
	if f.gate.Waits() && f.rnd.below(4) == 0 {
		wantError(t, "Return", f.gate.Return(f.missing), api.OK)
	}
	if f.roads[f.choice] == nil {
		f.roads[f.choice] = newRoad()
	}
	f.roads[f.choice].send(t, f.gate.Pass(now, f.choice), now+delay)
	return arrived
}

// TestSequence checks that a flow arrives whole and in sequence over roads that fail, if none takes longer than the hold time. (P17.7)
func TestSequence(t *testing.T) {
	const hold = 9
	f := &traffic{}
	for range 200 {
		*f = traffic{rnd: f.rnd, gate: made(t, hold), roads: map[reroutes.Way]*road{}, choice: by(2, 0)}
		delays := [2]int{1 + f.rnd.below(hold), 1 + f.rnd.below(hold)}
		var arrived []int
		for now := range 600 {
			// The last ticks are quiet, so that everything arrives.
			if now < 500 {
				f.disturb(t, now)
			}
			arrived = append(arrived, f.tick(t, now, delays[f.choice.Next-2])...)
		}
		for i, n := range arrived {
			if n != i+1 {
				t.Fatalf("the item %d is at place %d of %v", n, i+1, arrived)
			}
		}
		if len(arrived) != f.given {
			t.Fatalf("%d of %d have arrived", len(arrived), f.given)
		}
	}
}
