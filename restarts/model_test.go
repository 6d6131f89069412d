package restarts_test

import (
	"math/big"
	"slices"
	"testing"

	"pointcode/api"
	"pointcode/restarts"
)

// random is a generator of numbers that is the same in every run.
type random uint32

// below returns a number below n, which is at most 65536.
func (rnd *random) below(n int) int {
	*rnd = *rnd*1664525 + 1013904223
	return int(*rnd>>16) * n >> 16
}

// The kinds of acts.
const (
	goesUp = iota
	goesDown
	isDone
	ticks
)

// act is one thing that is done with a machine.
type act struct {
	kind int
	now  int // of goesUp and ticks
	n    api.Point
}

// event is an act that has happened, with the state before it, and whether it ended a restart.
type event struct {
	act
	before restarts.State
	ended  bool
}

// model is a machine that follows the definitions: it looks up everything in what has happened.
type model struct {
	neighbors []api.Point
	base      int
	history   []event
}

// isUp reports whether a neighbor was up after so many events.
func (x *model) isUp(n api.Point, events int) bool {
	for _, v := range slices.Backward(x.history[:events]) {
		if v.n == n && (v.kind == goesUp || v.kind == goesDown) {
			return v.kind == goesUp
		}
	}
	return true
}

// up returns the neighbors that are up.
func (x *model) up() []api.Point {
	return slices.DeleteFunc(slices.Clone(x.neighbors), func(n api.Point) bool { return !x.isUp(n, len(x.history)) })
}

// start returns the index of the event that began the latest restart, or -1.
func (x *model) start() int {
	for i, v := range slices.Backward(x.history) {
		if v.kind == goesUp && v.before == restarts.Down {
			return i
		}
	}
	return -1
}

// isDone reports whether a neighbor was made done in the latest restart, and has not been down since.
func (x *model) isDone(n api.Point) bool {
	for i := len(x.history) - 1; i > x.start(); i-- {
		switch v := x.history[i]; {
		case v.n != n:
		case v.kind == goesDown:
			return false
		case v.kind == isDone && v.before == restarts.Waiting && x.isUp(n, i):
			return true
		}
	}
	return false
}

func (x *model) state() restarts.State {
	if len(x.neighbors) > 0 && len(x.up()) == 0 {
		return restarts.Down
	}
	start := x.start()
	if start < 0 || slices.ContainsFunc(x.history[start:], func(v event) bool { return v.ended }) {
		return restarts.Ready
	}
	return restarts.Waiting
}

// end returns the tick at which the restart ends at the latest.
func (x *model) end() int {
	end := new(big.Int).Add(big.NewInt(int64(x.history[x.start()].now)), big.NewInt(int64(x.base)))
	if !end.IsInt64() {
		return most
	}
	return int(end.Int64())
}

// isOver reports whether Tick ends a restart.
func (x *model) isOver(now int) bool {
	return x.state() == restarts.Waiting && (!slices.ContainsFunc(x.up(), func(n api.Point) bool { return !x.isDone(n) }) || now >= x.end())
}

// step returns the results of an act.
func (x *model) step(a act) (api.Errno, bool) {
	if a.kind != ticks && !slices.Contains(x.neighbors, a.n) {
		return api.ErrNone, false
	}
	over := a.kind == ticks && x.isOver(a.now)
	x.history = append(x.history, event{act: a, before: x.state(), ended: over})
	return api.OK, over
}

// do returns the results of an act with a machine.
func do(m *machine, a act) (api.Errno, bool) {
	switch a.kind {
	case goesUp:
		return m.Up(a.now, a.n), false
	case goesDown:
		return m.Down(a.n), false
	case isDone:
		return m.Done(a.n), false
	}
	return api.OK, m.Tick(a.now)
}

// same does the same with a machine and its model, and compares the results and the states.
func (x *model) same(t *testing.T, m *machine, a act) bool {
	t.Helper()
	e, over := do(m, a)
	wantE, wantOver := x.step(a)
	if e != wantE || over != wantOver || m.State() != x.state() {
		t.Errorf("%v is %d, %t, and the state %d, not %d, %t, %d", a, e, over, m.State(), wantE, wantOver, x.state())
		return false
	}
	return true
}

// compare does a list of acts with a machine and its model.
func compare(t *testing.T, neighbors []api.Point, base int, acts []act) {
	t.Helper()
	m, x := made(t, base, neighbors...), &model{neighbors: neighbors, base: base}
	for _, a := range acts {
		if !x.same(t, m, a) {
			t.Fatalf("with the neighbors %v and the base %d in %v", neighbors, base, acts)
		}
	}
}

// TestShort does all short lists of acts with a machine and its model, from the beginning and after all neighbors went down. (P18.1 to P18.4)
func TestShort(t *testing.T) {
	acts := []act{{goesUp, 5, 1}, {goesUp, 6, 2}, {goesUp, 6, 1}, {goesUp, 5, 3}, {goesDown, 0, 1}, {goesDown, 0, 2}, {isDone, 0, 1}, {isDone, 0, 2}, {ticks, 5, 0}, {ticks, 6, 0}, {ticks, 7, 0}}
	for _, neighbors := range [][]api.Point{nil, {1}, {2, 1}} {
		var gone []act
		for _, n := range neighbors {
			gone = append(gone, act{goesDown, 0, n})
		}
		for base := range 3 {
			var extend func(list []act, left int)
			extend = func(list []act, left int) {
				if left == 0 {
					compare(t, neighbors, base, list)
					return
				}
				for _, a := range acts {
					extend(append(list, a), left-1)
				}
			}
			extend(nil, 4)
			extend(gone, 5)
		}
	}
}

// tick returns a tick that is often one that matters: one near the end of the restart, or near the ends of the range of int.
func (x *model) tick(rnd *random) int {
	by := rnd.below(5) - 2
	end := rnd.below(20)
	if x.start() >= 0 && rnd.below(4) > 0 {
		end = x.end()
	}
	switch {
	case rnd.below(12) == 0:
		return []int{least, most, 0}[rnd.below(3)]
	case by > 0 && end > most-by || by < 0 && end < least-by:
		return end
	}
	return end + by
}

// TestLong does many acts with machines and their models. (P18.1 to P18.4)
func TestLong(t *testing.T) {
	var rnd random
	kinds := []int{goesUp, goesUp, goesDown, goesDown, goesDown, isDone, isDone, ticks, ticks}
	for range 1500 {
		neighbors := []api.Point{9, 4, 7, 1, 16383}[:rnd.below(6)]
		base := []int{0, 1, 2, 10, 1 << 40, most - 1, most}[rnd.below(7)]
		m, x := made(t, base, neighbors...), &model{neighbors: neighbors, base: base}
		for range 100 {
			a := act{kind: kinds[rnd.below(len(kinds))], now: x.tick(&rnd)}
			if a.kind != ticks {
				a.n = []api.Point{9, 4, 7, 1, 16383, 3}[rnd.below(6)]
			}
			if !x.same(t, m, a) {
				t.Fatalf("with the neighbors %v and the base %d after %v", neighbors, base, x.history)
			}
		}
	}
}

// TestConsequences checks when machines are Down, that they become Ready after they were Waiting only, and that they do not wait for more than base ticks. (P18.5)
func TestConsequences(t *testing.T) {
	var rnd random
	for range 600 {
		base := rnd.below(8)
		neighbors := several(rnd.below(5))
		m := made(t, base, neighbors...)
		isUp := map[api.Point]bool{}
		for _, n := range neighbors {
			isUp[n] = true
		}
		quiet := 0 // the tick since which nothing has changed
		for now := 0; now < 200; now += rnd.below(4) {
			before := m.State()
			if len(neighbors) > 0 && rnd.below(4) == 0 {
				a := act{kind: rnd.below(ticks), now: now, n: neighbors[rnd.below(len(neighbors))]}
				do(m, a)
				if a.kind != isDone {
					isUp[a.n] = a.kind == goesUp
				}
				quiet = now
			}
			if m.State() == restarts.Ready && before != restarts.Ready {
				t.Fatalf("the state became Ready from %d without Tick", before)
			}
			before = m.State()
			if over := m.Tick(now); over != (before == restarts.Waiting && m.State() == restarts.Ready) || !over && m.State() != before {
				t.Fatalf("Tick is %t, and the state %d, after %d", over, m.State(), before)
			}
			if isDown := len(neighbors) > 0 && !anyUp(isUp); isDown != (m.State() == restarts.Down) {
				t.Fatalf("the state is %d with the neighbors %v", m.State(), isUp)
			}
			if m.State() == restarts.Waiting && now-quiet >= base {
				t.Fatalf("the machine waits %d ticks after the last change, with the base %d", now-quiet, base)
			}
		}
	}
}

// anyUp reports whether one of the neighbors is up.
func anyUp(isUp map[api.Point]bool) bool {
	for _, is := range isUp {
		if is {
			return true
		}
	}
	return false
}
