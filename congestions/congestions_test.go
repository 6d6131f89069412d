package congestions_test

import (
	"math"
	"reflect"
	"testing"

	"pointcode/api"
	"pointcode/congestions"
)

type (
	meter   = congestions.Meter
	control = congestions.Control
)

// The ends of the range of int.
const (
	least = math.MinInt
	most  = math.MaxInt
)

// metered returns a new meter.
func metered(t *testing.T, marks ...int) *meter {
	t.Helper()
	m, e := congestions.NewMeter([3]int(marks))
	if m == nil || e != api.OK {
		t.Fatalf("NewMeter(%v) is %v, %d", marks, m, e)
	}
	return m
}

// controlled returns a new control.
func controlled(t *testing.T, base int) *control {
	t.Helper()
	c, e := congestions.NewControl(base)
	if c == nil || e != api.OK {
		t.Fatalf("NewControl(%d) is %v, %d", base, c, e)
	}
	return c
}

// wantSet checks what a meter with a known level makes of a length.
func wantSet(t *testing.T, m *meter, length, want int) {
	t.Helper()
	before := m.Level()
	if level, changed := m.Set(length); level != want || changed != (want != before) {
		t.Errorf("Set(%d) is %d, %t at the level %d, and not %d, %t", length, level, changed, before, want, want != before)
	}
	wantMeter(t, m, want)
}

// wantMeter checks the level of a meter.
func wantMeter(t *testing.T, m *meter, want int) {
	t.Helper()
	for range 2 {
		if got := m.Level(); got != want {
			t.Errorf("the level of the meter is %d, not %d", got, want)
		}
	}
}

// wantHear checks the error of Hear.
func wantHear(t *testing.T, c *control, now int, to api.Point, level int, want api.Errno) {
	t.Helper()
	if e := c.Hear(now, to, level); e != want {
		t.Errorf("Hear(%d, %d, %d) is %d, not %d", now, to, level, e, want)
	}
}

// hear lets a control hear something valid.
func hear(t *testing.T, c *control, now int, to api.Point, level int) {
	t.Helper()
	wantHear(t, c, now, to, level, api.OK)
}

// wantLevel checks the level of a destination at some ticks.
func wantLevel(t *testing.T, c *control, to api.Point, want int, ticks ...int) {
	t.Helper()
	for _, now := range ticks {
		if got := c.Level(now, to); got != want {
			t.Errorf("Level(%d, %d) is %d, not %d", now, to, got, want)
		}
	}
}

// TestExampleMeter checks the example of the chapter. (P19.2)
func TestExampleMeter(t *testing.T) {
	m := metered(t, 4, 8, 12)
	for _, c := range []struct {
		length, level int
		changed       bool
	}{{3, 0, false}, {9, 2, true}, {5, 2, false}, {4, 1, true}, {2, 0, true}} {
		if level, changed := m.Set(c.length); level != c.level || changed != c.changed {
			t.Errorf("Set(%d) is %d, %t", c.length, level, changed)
		}
	}
}

// TestExampleControl checks the example of the chapter. (P19.5)
func TestExampleControl(t *testing.T) {
	c := controlled(t, 10)
	hear(t, c, 100, 7, 2)
	wantLevel(t, c, 7, 2, 100, 101, 109)
	wantLevel(t, c, 7, 1, 110, 111, 119)
	wantLevel(t, c, 7, 0, 120, 121, 129, 130, 1000)
}

// TestNewMeter checks which marks are valid, and that the level is 0. (P19.1)
func TestNewMeter(t *testing.T) {
	for _, marks := range [][]int{{1, 2, 3}, {4, 8, 12}, {1, 2, most}, {1, most - 1, most}, {most - 2, most - 1, most}, {5, 6, 100}, {5, 99, 100}} {
		m := metered(t, marks...)
		wantMeter(t, m, 0)
		wantSet(t, m, 0, 0)
		wantSet(t, m, marks[0]-1, 0)
		wantSet(t, m, marks[0], 1)
	}
}

// TestNewMeterErrors checks which marks are invalid. (P19.1)
func TestNewMeterErrors(t *testing.T) {
	for _, marks := range [][3]int{
		{}, {0, 1, 2}, {0, 0, 1}, {-1, 0, 1}, {-1, 1, 2}, {-3, -2, -1}, {least, 0, most}, {least, 1, 2},
		{1, 1, 2}, {5, 5, 6}, {2, 1, 3}, {6, 5, 7}, {1, 0, 2}, {1, -1, 2}, {1, least, 2}, {most, 1, 2}, {most, most, most},
		{1, 2, 2}, {1, 5, 5}, {1, 3, 2}, {2, 3, 1}, {1, 2, 0}, {1, 2, -1}, {1, 2, least}, {1, most, most}, {1, most, 2}, {3, 2, 1},
	} {
		if m, e := congestions.NewMeter(marks); m != nil || e != api.ErrArg {
			t.Errorf("NewMeter(%v) is %v, %d", marks, m, e)
		}
	}
}

// TestRise checks that the level becomes the reached one as soon as a length is not below a mark. (P19.2)
func TestRise(t *testing.T) {
	for length, want := range []int{0, 0, 0, 0, 1, 1, 1, 1, 2, 2, 2, 2, 3, 3, 3, 3} {
		wantSet(t, metered(t, 4, 8, 12), length, want)
	}
	m := metered(t, 4, 8, 12)
	for length, want := range []int{0, 0, 0, 0, 1, 1, 1, 1, 2, 2, 2, 2, 3, 3, 3, 3} {
		wantSet(t, m, length, want)
		wantSet(t, m, length, want)
	}
	wantSet(t, metered(t, 4, 8, 12), most, 3)
}

// TestFall checks that the level becomes the kept one as soon as a length is not above the half of a mark, from each level. (P19.2)
func TestFall(t *testing.T) {
	for from, kept := range [][]int{
		{0, 0, 0, 0},
		{0, 0, 0, 1, 1, 1, 1, 1},
		{0, 0, 0, 1, 1, 2, 2, 2, 2, 2, 2, 2},
		{0, 0, 0, 1, 1, 2, 2, 3, 3, 3, 3, 3, 3},
	} {
		for length, want := range kept {
			m := metered(t, 4, 8, 12)
			wantSet(t, m, from*4, from)
			wantSet(t, m, length, want)
		}
		m := metered(t, 4, 8, 12)
		wantSet(t, m, from*4, from)
		for length := len(kept) - 1; length >= 0; length-- {
			wantSet(t, m, length, kept[length])
			wantSet(t, m, length, kept[length])
		}
	}
}

// TestOdd checks that the halves of odd marks are rounded down. (P19.2)
func TestOdd(t *testing.T) {
	for length, want := range []int{0, 0, 1, 1, 2, 2, 3, 3} {
		m := metered(t, 3, 7, 11)
		wantSet(t, m, 11, 3)
		wantSet(t, m, length, want)
	}
	m := metered(t, 1, 2, 3)
	for _, x := range [][2]int{{3, 3}, {2, 3}, {1, 1}, {0, 0}, {1, 1}, {2, 2}, {1, 1}, {3, 3}, {1, 1}} {
		wantSet(t, m, x[0], x[1])
	}
	wide := metered(t, most-2, most-1, most)
	for _, x := range [][2]int{{most - 3, 0}, {most - 2, 1}, {most, 3}, {most/2 + 1, 3}, {most / 2, 1}, {most/2 - 1, 0}} {
		wantSet(t, wide, x[0], x[1])
	}
}

// TestKept checks that a kept level does not raise a level. (P19.2)
func TestKept(t *testing.T) {
	for low, lengths := range [][]int{{0, 3}, {4, 5, 7}, {8, 9, 11}} {
		m := metered(t, 4, 8, 12)
		wantSet(t, m, low*4, low)
		for _, length := range lengths {
			wantSet(t, m, length, low)
		}
	}
	m := metered(t, 10, 11, 12)
	wantSet(t, m, 9, 0)
	wantSet(t, m, 10, 1)
	wantSet(t, m, 9, 1)
	wantSet(t, m, 11, 2)
	wantSet(t, m, 6, 2)
	wantSet(t, m, 5, 0)
	wantSet(t, m, 9, 0)
}

// TestNegative checks that negative lengths are like 0. (P19.2)
func TestNegative(t *testing.T) {
	for _, length := range []int{-1, -2, -12, least + 1, least} {
		for _, marks := range [][]int{{1, 2, 3}, {4, 8, 12}, {most - 2, most - 1, most}} {
			m := metered(t, marks...)
			wantSet(t, m, length, 0)
			for level, mark := range marks {
				wantSet(t, m, mark, level+1)
				wantSet(t, m, length, 0)
				wantSet(t, m, length, 0)
			}
		}
	}
}

// TestNoMeter checks nil and zero meters. (P19.2)
func TestNoMeter(t *testing.T) {
	for _, m := range []*meter{nil, {}, new(meter)} {
		wantMeter(t, m, 0)
		for _, length := range []int{least, -1, 0, 1, 2, 100, most, 0} {
			wantSet(t, m, length, 0)
		}
	}
}

// TestSheds checks all priorities at all levels and at invalid ones. (P19.3)
func TestSheds(t *testing.T) {
	for _, level := range []int{least, -256, -255, -1, 0, 1, 2, 3, 4, 255, 256, 257, 512, 1 << 40, most} {
		for priority := range 256 {
			if got := congestions.Sheds(level, uint8(priority)); got != (priority < level) {
				t.Errorf("Sheds(%d, %d) is %t", level, priority, got)
			}
		}
	}
}

// TestNewControl checks which bases are valid, and that all levels are 0. (P19.4)
func TestNewControl(t *testing.T) {
	for _, base := range []int{1, 2, 10, 1 << 40, most - 1, most} {
		c := controlled(t, base)
		for _, to := range []api.Point{0, 1, 7, 16383, 16384, 65535} {
			wantLevel(t, c, to, 0, least, -1, 0, 1, 1000, most)
		}
	}
	for _, base := range []int{0, -1, -10, least + 1, least} {
		if c, e := congestions.NewControl(base); c != nil || e != api.ErrArg {
			t.Errorf("NewControl(%d) is %v, %d", base, c, e)
		}
	}
}

// TestHear checks which levels and destinations are valid, and that what is recorded concerns no other destination. (P19.5)
func TestHear(t *testing.T) {
	for _, to := range []api.Point{0, 1, 7, 8192, 16382, 16383} {
		for level := range 4 {
			c := controlled(t, 10)
			hear(t, c, 100, to, level)
			wantLevel(t, c, to, level, 100, 109)
			wantLevel(t, c, to, max(level-1, 0), 110, 119)
			wantLevel(t, c, to, max(level-2, 0), 120, 129)
			wantLevel(t, c, to, 0, 130, 139, 140, 1000, most)
			for _, other := range []api.Point{2, 16381, to + 1, to ^ 16384, to ^ 32768, to ^ 256} {
				wantLevel(t, c, other, 0, least, 99, 100, 101, 110)
			}
		}
	}
}

// TestHearErrors checks which levels and destinations are invalid, and that nothing changes with them. (P19.5)
func TestHearErrors(t *testing.T) {
	c := controlled(t, 10)
	hear(t, c, 100, 7, 2)
	for _, level := range []int{-1, -3, least, 4, 5, 256, 258, 1 << 32, most} {
		for _, to := range []api.Point{7, 8, 16384} {
			wantHear(t, c, 105, to, level, api.ErrArg)
		}
		wantLevel(t, c, 8, 0, 105)
	}
	for _, to := range []api.Point{16384, 16391, 32768, 32775, 65535} {
		for level := range 4 {
			wantHear(t, c, 105, to, level, api.ErrArg)
		}
		wantLevel(t, c, to, 0, 100, 105)
	}
	wantLevel(t, c, 7, 2, 100, 105, 109)
	wantLevel(t, c, 7, 1, 110, 119)
}

// TestEarlier checks that the level is not lowered at ticks before the one of the record. (P19.5)
func TestEarlier(t *testing.T) {
	for _, at := range []int{100, 0, -100, 1, most, most - 1} {
		c := controlled(t, 10)
		hear(t, c, at, 7, 3)
		wantLevel(t, c, 7, 3, at, at-1, at-9, at-10, at-11, at-1000, least+1, least)
	}
	c := controlled(t, 1)
	hear(t, c, least, 7, 3)
	wantLevel(t, c, 7, 3, least)
	wantLevel(t, c, 7, 2, least+1)

	// A level that is over is not forgotten for earlier ticks.
	c = controlled(t, 10)
	hear(t, c, 100, 7, 1)
	hear(t, c, 5000, 8, 1)
	wantLevel(t, c, 7, 0, 110, 5000)
	wantLevel(t, c, 7, 1, 109, 50)
}

// TestLast checks that the last record counts, whatever its level and its tick. (P19.5)
func TestLast(t *testing.T) {
	c := controlled(t, 10)
	hear(t, c, 100, 7, 3)
	hear(t, c, 115, 7, 1)
	wantLevel(t, c, 7, 1, 100, 115, 124)
	wantLevel(t, c, 7, 0, 125)
	hear(t, c, 116, 7, 2)
	wantLevel(t, c, 7, 2, 125)
	wantLevel(t, c, 7, 1, 126, 135)
	hear(t, c, 50, 7, 3)
	wantLevel(t, c, 7, 3, 40, 50, 59)
	wantLevel(t, c, 7, 2, 60)
	wantLevel(t, c, 7, 0, 80, 116)
	hear(t, c, 50, 7, 0)
	wantLevel(t, c, 7, 0, least, 40, 50, 60, most)
	hear(t, c, 51, 7, 1)
	wantLevel(t, c, 7, 1, 40, 51, 60)
	hear(t, c, 60, 7, 1)
	wantLevel(t, c, 7, 1, 61, 69)
	hear(t, c, 69, 7, 0)
	hear(t, c, 69, 8, 0)
	wantLevel(t, c, 7, 0, 68, 69)
	wantLevel(t, c, 8, 0, 68, 69)
}

// TestBase checks when the levels are lowered with several bases, also where the ticks that have passed leave the range of int. (P19.5)
func TestBase(t *testing.T) {
	c := controlled(t, 1)
	hear(t, c, 5, 7, 3)
	for i, want := range []int{3, 2, 1, 0, 0} {
		wantLevel(t, c, 7, want, 5+i)
	}
	hear(t, c, least, 7, 3)
	wantLevel(t, c, 7, 0, least+3, -1, 0, 1, most)

	c = controlled(t, most)
	hear(t, c, least, 7, 3)
	wantLevel(t, c, 7, 3, least, least+1, -2)
	wantLevel(t, c, 7, 2, -1, 0, 1, most-2)
	wantLevel(t, c, 7, 1, most-1, most)
	hear(t, c, 0, 7, 3)
	wantLevel(t, c, 7, 3, least, 0, most-1)
	wantLevel(t, c, 7, 2, most)
	hear(t, c, most, 7, 1)
	wantLevel(t, c, 7, 1, least, 0, most)

	c = controlled(t, 1<<62)
	hear(t, c, least, 7, 3)
	wantLevel(t, c, 7, 3, least, -1<<62-1)
	wantLevel(t, c, 7, 2, -1<<62, -1)
	wantLevel(t, c, 7, 1, 0, 1<<62-1)
	wantLevel(t, c, 7, 0, 1<<62, most)
}

// TestNoControl checks nil and zero controls. (P19.5)
func TestNoControl(t *testing.T) {
	for _, c := range []*control{nil, {}, new(control)} {
		for _, now := range []int{least, -1, 0, 1, most} {
			for _, to := range []api.Point{0, 7, 16383, 16384, 65535} {
				for _, level := range []int{least, -1, 0, 1, 3, 4, most} {
					wantHear(t, c, now, to, level, api.ErrNil)
				}
				wantLevel(t, c, to, 0, least, -1, 0, 1, most)
			}
		}
	}
}

// filled returns a control with a base of 10 whose destinations 1 to n have the level 1 from the tick 100 on.
func filled(t *testing.T, n int) *control {
	t.Helper()
	c := controlled(t, 10)
	for i := range n {
		hear(t, c, 100, api.Point(i+1), 1)
	}
	return c
}

// TestFull checks that there is no room if the most other destinations have a level above 0, and that nothing changes then. (P19.5)
func TestFull(t *testing.T) {
	c := filled(t, api.MaxPoints)
	for _, to := range []api.Point{0, 65, 16383} {
		for level := range 4 {
			wantHear(t, c, 105, to, level, api.ErrFull)
		}
		wantLevel(t, c, to, 0, least, 100, 105, most)
	}
	wantHear(t, c, 105, 65, 4, api.ErrArg)
	wantHear(t, c, 105, 65, -1, api.ErrArg)
	wantHear(t, c, 105, 16384, 1, api.ErrArg)
	// A destination that is recorded already is not an other one.
	hear(t, c, 105, 64, 3)
	wantLevel(t, c, 64, 3, 105, 114)
	wantHear(t, c, 105, 65, 1, api.ErrFull)
	hear(t, c, 105, 1, 0)
	wantLevel(t, c, 1, 0, 105)
	hear(t, c, 105, 65, 2)
	wantLevel(t, c, 65, 2, 105)
	wantHear(t, c, 105, 1, 1, api.ErrFull)
	for i := range 62 {
		wantLevel(t, c, api.Point(i+2), 1, 100, 109)
	}
}

// TestFullTicks checks that levels count for the room as they are at the tick of Hear. (P19.5)
func TestFullTicks(t *testing.T) {
	c := filled(t, api.MaxPoints)
	for _, now := range []int{least, 0, 99, 100, 109} {
		wantHear(t, c, now, 65, 1, api.ErrFull)
	}
	hear(t, c, 110, 65, 1)
	for _, now := range []int{least, 0, 109} {
		wantHear(t, c, now, 66, 1, api.ErrFull)
		// There are the most others of each one now.
		wantHear(t, c, now, 1, 1, api.ErrFull)
		wantHear(t, c, now, 65, 0, api.ErrFull)
	}
	wantLevel(t, c, 65, 1, 105, 110, 119)
	for i := range 63 {
		hear(t, c, 110, api.Point(i+66), 1)
	}
	wantHear(t, c, 119, 1, 1, api.ErrFull)
	hear(t, c, 119, 65, 0)
	hear(t, c, 119, 1, 3)
	wantHear(t, c, 119, 2, 3, api.ErrFull)
	hear(t, c, 120, 2, 3)
	wantLevel(t, c, 2, 3, 120)
}

// TestFullZero checks that destinations with the level 0 need no room. (P19.5)
func TestFullZero(t *testing.T) {
	c := controlled(t, 10)
	for i := range 1000 {
		hear(t, c, 100, api.Point(i), 0)
	}
	for i := range api.MaxPoints {
		hear(t, c, 100, api.Point(i), 2)
	}
	wantHear(t, c, 100, 64, 0, api.ErrFull)
	wantHear(t, c, 119, 64, 1, api.ErrFull)
	hear(t, c, 120, 64, 1)
}

// TestAll checks that more destinations than the most can be recorded, one after the other, and that none is forgotten. (P19.5)
func TestAll(t *testing.T) {
	c := controlled(t, 1)
	const step = 9
	for i := 0; i <= api.MaxPoint; i += step {
		hear(t, c, i, api.Point(i), 1+i%3)
	}
	for i := 0; i <= api.MaxPoint; i += step {
		wantLevel(t, c, api.Point(i), 1+i%3, i)
		wantLevel(t, c, api.Point(i), i%3, i+1)
		wantLevel(t, c, api.Point(i), 0, i+3)
		wantLevel(t, c, api.Point(i+1), 0, i)
	}
	wantHear(t, c, 0, 0, 1, api.ErrFull)
}

// TestSeparate checks that meters and controls do not share anything. (P19.1, P19.4)
func TestSeparate(t *testing.T) {
	m, x := metered(t, 4, 8, 12), metered(t, 4, 8, 12)
	wantSet(t, m, 12, 3)
	wantMeter(t, x, 0)
	wantSet(t, x, 4, 1)
	wantMeter(t, m, 3)

	c, d := controlled(t, 10), controlled(t, 10)
	hear(t, c, 100, 7, 3)
	wantLevel(t, d, 7, 0, 100)
	hear(t, d, 100, 7, 1)
	wantLevel(t, c, 7, 3, 100)
	for _, to := range several(api.MaxPoints) {
		hear(t, c, 200, to, 1)
	}
	hear(t, d, 200, 7, 1)
}

// several returns so many destinations.
func several(n int) []api.Point {
	out := make([]api.Point, n)
	for i := range out {
		out[i] = api.Point(i * 250)
	}
	return out
}

// TestFields checks that meters and controls have no exported fields. (R5)
func TestFields(t *testing.T) {
	for _, of := range []reflect.Type{reflect.TypeFor[meter](), reflect.TypeFor[control]()} {
		for i := range of.NumField() {
			if of.Field(i).IsExported() {
				t.Error("exported:", of.Name(), of.Field(i).Name)
			}
		}
	}
}
