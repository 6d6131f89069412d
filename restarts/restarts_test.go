package restarts_test

import (
	"math"
	"reflect"
	"slices"
	"testing"

	"pointcode/api"
	"pointcode/restarts"
)

type machine = restarts.Machine

// The ends of the range of int.
const (
	least = math.MinInt
	most  = math.MaxInt
)

// made returns a new machine.
func made(t *testing.T, base int, neighbors ...api.Point) *machine {
	t.Helper()
	m, e := restarts.New(neighbors, base)
	if m == nil || e != api.OK {
		t.Fatalf("New(%v, %d) is %v, %d", neighbors, base, m, e)
	}
	return m
}

// cut returns a machine whose neighbors are all down.
func cut(t *testing.T, base int, neighbors ...api.Point) *machine {
	t.Helper()
	m := made(t, base, neighbors...)
	down(t, m, neighbors...)
	return m
}

// up makes neighbors up.
func up(t *testing.T, m *machine, now int, neighbors ...api.Point) {
	t.Helper()
	for _, n := range neighbors {
		wantError(t, "Up", m.Up(now, n), api.OK)
	}
}

// down makes neighbors not up.
func down(t *testing.T, m *machine, neighbors ...api.Point) {
	t.Helper()
	for _, n := range neighbors {
		wantError(t, "Down", m.Down(n), api.OK)
	}
}

// done makes neighbors done.
func done(t *testing.T, m *machine, neighbors ...api.Point) {
	t.Helper()
	for _, n := range neighbors {
		wantError(t, "Done", m.Done(n), api.OK)
	}
}

// wantError checks the error of an act by its name.
func wantError(t *testing.T, what string, got, want api.Errno) {
	t.Helper()
	if got != want {
		t.Errorf("%s is %d, not %d", what, got, want)
	}
}

// wantState checks a state.
func wantState(t *testing.T, m *machine, want restarts.State) {
	t.Helper()
	if got := m.State(); got != want {
		t.Errorf("the state is %d, not %d", got, want)
	}
}

// wantWaiting checks that a restart does not end at some ticks.
func wantWaiting(t *testing.T, m *machine, ticks ...int) {
	t.Helper()
	for _, now := range ticks {
		if m.Tick(now) {
			t.Errorf("Tick(%d) is true", now)
		}
		wantState(t, m, restarts.Waiting)
	}
}

// wantEnd checks that a restart ends at a tick, and that it does so once.
func wantEnd(t *testing.T, m *machine, now int) {
	t.Helper()
	wantState(t, m, restarts.Waiting)
	if !m.Tick(now) {
		t.Errorf("Tick(%d) is false", now)
	}
	wantState(t, m, restarts.Ready)
	wantNoTick(t, m)
}

// wantNoTick checks that Tick does nothing with a machine, which is not Waiting.
func wantNoTick(t *testing.T, m *machine) {
	t.Helper()
	before := m.State()
	for _, now := range []int{least, -1, 0, 1, 1000, most} {
		if m.Tick(now) {
			t.Errorf("Tick(%d) is true", now)
		}
		wantState(t, m, before)
	}
}

// TestExample checks the example of the chapter. (P18.2 to P18.4)
func TestExample(t *testing.T) {
	prepared := func() *machine {
		m := made(t, 10, 1, 2)
		down(t, m, 1)
		wantState(t, m, restarts.Ready)
		down(t, m, 2)
		wantState(t, m, restarts.Down)
		up(t, m, 5, 1)
		wantWaiting(t, m, 6)
		done(t, m, 1)
		return m
	}
	wantEnd(t, prepared(), 6)
	m := prepared()
	up(t, m, 7, 2)
	wantWaiting(t, m, 8, 14)
	wantEnd(t, m, 15)
}

// TestStates checks the numbers of the states. (P18.1)
func TestStates(t *testing.T) {
	if got := [...]restarts.State{restarts.Ready, restarts.Down, restarts.Waiting}; got != [...]restarts.State{0, 1, 2} {
		t.Error("the states are", got)
	}
}

// several returns so many neighbors.
func several(n int) []api.Point {
	out := make([]api.Point, n)
	for i := range out {
		out[i] = api.Point(i * 250)
	}
	return out
}

// TestNew checks which neighbors and bases are valid, and what the machine is. (P18.1)
func TestNew(t *testing.T) {
	for _, l := range [][]api.Point{nil, {}, {0}, {16383}, {5}, {16383, 0}, {3, 2, 1}, several(63), several(64)} {
		for _, base := range []int{0, 1, 10, 1 << 40, most - 1, most} {
			m := made(t, base, l...)
			wantState(t, m, restarts.Ready)
			wantNoTick(t, m)
			for i, n := range l {
				down(t, m, n)
				if i < len(l)-1 {
					wantState(t, m, restarts.Ready)
				} else {
					wantState(t, m, restarts.Down)
				}
			}
		}
	}
}

// TestNewErrors checks the errors of New, and which of them comes first. (P18.1)
func TestNewErrors(t *testing.T) {
	equal := several(64)
	equal[63] = equal[0]
	for _, c := range []struct {
		neighbors []api.Point
		base      int
		want      api.Errno
	}{
		{make([]api.Point, 65), 5, api.ErrLimit},
		{several(65), 5, api.ErrLimit},
		{several(65), -1, api.ErrLimit},
		{append(several(64), 65535), 0, api.ErrLimit},
		{make([]api.Point, 1000), least, api.ErrLimit},
		{[]api.Point{16384}, 5, api.ErrArg},
		{[]api.Point{65535}, 5, api.ErrArg},
		{[]api.Point{1, 2, 16384}, 5, api.ErrArg},
		{[]api.Point{16384, 1, 2}, 5, api.ErrArg},
		{[]api.Point{1, 1}, 5, api.ErrArg},
		{[]api.Point{0, 0}, 5, api.ErrArg},
		{[]api.Point{1, 2, 1}, 5, api.ErrArg},
		{[]api.Point{1, 2, 3, 3}, 5, api.ErrArg},
		{equal, 5, api.ErrArg},
		{[]api.Point{16384, 16384}, -1, api.ErrArg},
		{nil, -1, api.ErrArg},
		{[]api.Point{}, -1, api.ErrArg},
		{nil, least, api.ErrArg},
		{[]api.Point{1, 2}, -1, api.ErrArg},
		{[]api.Point{1, 2}, least, api.ErrArg},
	} {
		m, e := restarts.New(c.neighbors, c.base)
		wantError(t, "New", e, c.want)
		if m != nil {
			t.Errorf("New(%v, %d) is a machine with an error", c.neighbors, c.base)
		}
	}
}

// TestAlone checks a machine without neighbors, which is not the zero one. (P18.1, P18.2, P18.3)
func TestAlone(t *testing.T) {
	for _, l := range [][]api.Point{nil, {}, make([]api.Point, 0, 5)} {
		m := made(t, 0, l...)
		for _, n := range []api.Point{0, 1, 16383, 16384, 65535} {
			wantError(t, "Up", m.Up(3, n), api.ErrNone)
			wantError(t, "Down", m.Down(n), api.ErrNone)
			wantError(t, "Done", m.Done(n), api.ErrNone)
			wantState(t, m, restarts.Ready)
			wantNoTick(t, m)
		}
	}
}

// TestNone checks nil and zero machines. (P18.1 to P18.4)
func TestNone(t *testing.T) {
	for _, m := range []*machine{nil, {}, new(machine)} {
		for range 2 {
			for _, n := range []api.Point{0, 1, 16383, 16384, 65535} {
				wantState(t, m, restarts.Down)
				wantError(t, "Up", m.Up(3, n), api.ErrNil)
				wantState(t, m, restarts.Down)
				wantError(t, "Down", m.Down(n), api.ErrNil)
				wantError(t, "Done", m.Done(n), api.ErrNil)
				wantState(t, m, restarts.Down)
				wantNoTick(t, m)
			}
		}
	}
}

// TestStrangers checks that acts with points that are not neighbors change nothing, in each state. (P18.2, P18.3)
func TestStrangers(t *testing.T) {
	waiting := cut(t, 10, 1, 2)
	up(t, waiting, 5, 1)
	for _, m := range []*machine{made(t, 10, 1, 2), cut(t, 10, 1, 2), waiting} {
		before := m.State()
		for _, n := range []api.Point{0, 3, 4, 257, 16383, 16384, 16385, 32769, 65535} {
			wantError(t, "Up", m.Up(0, n), api.ErrNone)
			wantError(t, "Done", m.Done(n), api.ErrNone)
			wantError(t, "Down", m.Down(n), api.ErrNone)
			wantState(t, m, before)
		}
	}
	wantWaiting(t, waiting, 5, 14)
	wantEnd(t, waiting, 15)
}

// TestUp checks that only a machine that is Down begins to restart, with whichever neighbor. (P18.2)
func TestUp(t *testing.T) {
	for _, n := range []api.Point{1, 2, 3} {
		m := made(t, 10, 1, 2, 3)
		up(t, m, 5, n)
		wantState(t, m, restarts.Ready)
		down(t, m, 1, 3)
		up(t, m, 5, n)
		wantState(t, m, restarts.Ready)
		wantNoTick(t, m)

		m = cut(t, 10, 1, 2, 3)
		up(t, m, 5, n)
		wantWaiting(t, m, least, 0, 5, 6, 14)
		wantEnd(t, m, 15)
	}
}

// TestUpAgain checks that a restart begins with its first neighbor, and that a neighbor stays done if it is up already. (P18.2)
func TestUpAgain(t *testing.T) {
	m := cut(t, 10, 1, 2)
	up(t, m, 5, 1)
	up(t, m, 9, 2, 1, 2)
	up(t, m, 0, 1)
	wantWaiting(t, m, 14)
	wantEnd(t, m, 15)

	m = cut(t, 10, 1, 2)
	up(t, m, 5, 1, 2)
	done(t, m, 1)
	up(t, m, 6, 1)
	wantWaiting(t, m, 7)
	done(t, m, 2)
	wantEnd(t, m, 7)
}

// TestDown checks that a machine becomes Down with its last neighbor, and not before. (P18.2)
func TestDown(t *testing.T) {
	for _, order := range [][]api.Point{{1, 2, 3}, {3, 1, 2}, {2, 3, 1}} {
		m := made(t, 10, 1, 2, 3)
		for _, is := range []restarts.State{restarts.Ready, restarts.Waiting} {
			wantState(t, m, is)
			down(t, m, order[0], order[0], order[1], order[0])
			wantState(t, m, is)
			down(t, m, order[2])
			wantState(t, m, restarts.Down)
			wantNoTick(t, m)
			down(t, m, order...)
			wantState(t, m, restarts.Down)
			up(t, m, 5, order...)
		}
	}
}

// TestDownNotDone checks that a neighbor that was down has to be done again. (P18.2)
func TestDownNotDone(t *testing.T) {
	m := cut(t, 10, 1, 2)
	up(t, m, 5, 1, 2)
	done(t, m, 1)
	down(t, m, 1)
	up(t, m, 6, 1)
	done(t, m, 2)
	wantWaiting(t, m, 6, 14)
	done(t, m, 1)
	wantEnd(t, m, 6)
}

// TestDownLeaves checks that a restart does not wait for a neighbor that is down. (P18.2, P18.4)
func TestDownLeaves(t *testing.T) {
	m := cut(t, 10, 1, 2, 3)
	up(t, m, 5, 1, 2)
	done(t, m, 1)
	wantWaiting(t, m, 6)
	down(t, m, 2)
	wantEnd(t, m, 6)

	m = cut(t, 10, 1, 2, 3)
	up(t, m, 5, 1, 2)
	down(t, m, 1)
	wantWaiting(t, m, 6, 14)
	wantEnd(t, m, 15)
}

// TestInterrupted checks that a restart after a restart begins anew, with its own tick and no neighbor done. (P18.2)
func TestInterrupted(t *testing.T) {
	m := cut(t, 10, 1, 2)
	for _, begin := range []int{5, 12, 100, 50, -7, least, most - 10} {
		up(t, m, begin, 1, 2)
		done(t, m, 1)
		wantWaiting(t, m, begin, begin+9)
		down(t, m, 1, 2)
		wantState(t, m, restarts.Down)
		wantNoTick(t, m)
	}
	up(t, m, 20, 1)
	wantWaiting(t, m, 20, 29)
	wantEnd(t, m, 30)

	// One that ended by its neighbors does not make them done in the next one.
	down(t, m, 1)
	up(t, m, 40, 1, 2)
	done(t, m, 1, 2)
	wantEnd(t, m, 40)
	down(t, m, 1, 2)
	up(t, m, 41, 2, 1)
	wantWaiting(t, m, 41, 50)
	done(t, m, 2)
	wantWaiting(t, m, 50)
	wantEnd(t, m, 51)
}

// TestDoneEarly checks that Done changes nothing while the machine is Ready or Down, or the neighbor is not up. (P18.3)
func TestDoneEarly(t *testing.T) {
	m := made(t, 10, 1, 2)
	done(t, m, 1, 2)
	wantState(t, m, restarts.Ready)
	wantNoTick(t, m)
	down(t, m, 1)
	done(t, m, 1, 2)
	wantState(t, m, restarts.Ready)
	down(t, m, 2)
	done(t, m, 1, 2)
	wantState(t, m, restarts.Down)
	wantNoTick(t, m)
	up(t, m, 5, 1)
	done(t, m, 2)
	wantWaiting(t, m, 6)
	up(t, m, 6, 2)
	done(t, m, 1)
	wantWaiting(t, m, 6, 14)
	done(t, m, 2)
	wantEnd(t, m, 6)
}

// TestDone checks that a restart ends as soon as all neighbors that are up are done, in whichever order. (P18.3, P18.4)
func TestDone(t *testing.T) {
	for _, order := range [][]api.Point{{1, 2, 3}, {1, 3, 2}, {2, 1, 3}, {2, 3, 1}, {3, 1, 2}, {3, 2, 1}} {
		m := cut(t, 10, 1, 2, 3, 4)
		up(t, m, 5, 1, 2, 3)
		for _, n := range order {
			wantWaiting(t, m, least, 5, 14)
			done(t, m, n, n)
			wantState(t, m, restarts.Waiting)
		}
		wantEnd(t, m, least)
	}
}

// TestMany checks restarts with the most neighbors. (P18.2 to P18.4)
func TestMany(t *testing.T) {
	l := several(api.MaxPoints)
	for _, last := range []int{0, 1, 31, 63} {
		m := cut(t, 10, l...)
		up(t, m, 5, l...)
		others := slices.Delete(slices.Clone(l), last, last+1)
		done(t, m, others...)
		wantWaiting(t, m, 14)
		down(t, m, others...)
		wantWaiting(t, m, 14)
		done(t, m, l[last])
		wantEnd(t, m, 14)
		down(t, m, l[last])
		wantState(t, m, restarts.Down)
	}
}

// TestTick checks at which tick a restart ends at the latest, also at the ends of the range of int. (P18.4)
func TestTick(t *testing.T) {
	for _, c := range []struct{ begin, base, end int }{
		{5, 10, 15}, {5, 1, 6}, {5, 0, 5}, {0, 0, 0}, {0, 1, 1}, {-3, 10, 7}, {-10, 10, 0}, {-20, 10, -10}, {-1, 0, -1},
		{0, most, most}, {1, most, most}, {-1, most, most - 1}, {2, most - 1, most}, {most, most, most}, {most, 1, most}, {most, 0, most},
		{most - 1, 0, most - 1}, {most - 1, 1, most}, {most - 1, 2, most}, {most - 10, 10, most}, {most - 10, 9, most - 1}, {most - 10, 11, most},
		{least, 1, least + 1}, {least, 10, least + 10}, {least, most, -1}, {least + 1, most, 0}, {least + 2, most, 1},
	} {
		for _, step := range []int{0, 1, 1000, most} {
			m := cut(t, c.base, 1)
			up(t, m, c.begin, 1)
			wantWaiting(t, m, least, c.end-1)
			if c.begin < c.end {
				wantWaiting(t, m, c.begin)
			}
			now := most
			if c.end <= most-step {
				now = c.end + step
			}
			wantEnd(t, m, now)
		}
	}
	// A restart that begins at the least tick without a base ends at every tick.
	for _, now := range []int{least, 0, most} {
		m := cut(t, 0, 1)
		up(t, m, least, 1)
		wantEnd(t, m, now)
	}
}

// TestSeparate checks that machines do not share anything. (P18.1)
func TestSeparate(t *testing.T) {
	m, x := made(t, 10, 1, 2), made(t, 10, 1, 2)
	down(t, m, 1, 2)
	wantState(t, x, restarts.Ready)
	up(t, m, 5, 1)
	down(t, x, 1, 2)
	up(t, x, 7, 1)
	done(t, m, 1)
	wantWaiting(t, x, 16)
	wantEnd(t, m, 5)
	wantEnd(t, x, 17)
}

// TestMemory checks that New neither changes nor keeps its argument. (R1)
func TestMemory(t *testing.T) {
	l := []api.Point{1, 2, 3, 4}
	m := made(t, 10, l[:3]...)
	if !slices.Equal(l, []api.Point{1, 2, 3, 4}) {
		t.Error("New has changed its argument:", l)
	}
	clear(l)
	down(t, m, 1, 2, 3)
	wantState(t, m, restarts.Down)
	wantError(t, "Up", m.Up(0, 0), api.ErrNone)
	wantError(t, "Up", m.Up(0, 4), api.ErrNone)

	equal := []api.Point{7, 5, 7}
	if _, e := restarts.New(equal, 0); e != api.ErrArg || !slices.Equal(equal, []api.Point{7, 5, 7}) {
		t.Error("New has changed its argument:", equal)
	}
}

// TestFields checks that a machine has no exported fields. (R5)
func TestFields(t *testing.T) {
	of := reflect.TypeFor[machine]()
	for i := range of.NumField() {
		if of.Field(i).IsExported() {
			t.Error("exported:", of.Field(i).Name)
		}
	}
}
