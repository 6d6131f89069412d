package congestions_test

import (
	"math/big"
	"slices"
	"testing"

	"pointcode/api"
	"pointcode/congestions"
)

// random is a generator of numbers that is the same in every run.
type random uint32

// below returns a number below n, which is at most 65536.
func (rnd *random) below(n int) int {
	*rnd = *rnd*1664525 + 1013904223
	return int(*rnd>>16) * n >> 16
}

// marked is a meter that follows the definitions.
type marked struct {
	marks []int
	level int
}

// reached returns the reached level for a length.
func (x *marked) reached(length int) int {
	n := 0
	for _, mark := range x.marks {
		if !(mark > length) {
			n++
		}
	}
	return n
}

// kept returns the kept level for a length.
func (x *marked) kept(length int) int {
	n := 0
	for _, mark := range x.marks {
		if length > mark>>1 {
			n++
		}
	}
	return n
}

// set returns what Set returns.
func (x *marked) set(length int) (int, bool) {
	length = max(length, 0)
	before := x.level
	if reached := x.reached(length); reached > x.level {
		x.level = reached
	} else if kept := x.kept(length); kept < x.level {
		x.level = max(kept, reached)
	}
	return x.level, x.level != before
}

// sameSet sets the length of a meter and of its model, and compares the results.
func (x *marked) sameSet(t *testing.T, m *meter, length int) {
	t.Helper()
	before := x.level
	level, changed := m.Set(length)
	if want, wantChanged := x.set(length); level != want || changed != wantChanged || m.Level() != want {
		t.Fatalf("with the marks %v, Set(%d) is %d, %t at the level %d, and not %d, %t", x.marks, length, level, changed, before, want, wantChanged)
	}
}

// TestSmallMeters sets all short lists of lengths of meters with all small marks, and compares them with their models. (P19.1, P19.2)
func TestSmallMeters(t *testing.T) {
	const limit = 9
	for code := range limit * limit * limit {
		marks := []int{code / limit / limit, code / limit % limit, code % limit}
		valid := marks[0] >= 1 && marks[0] < marks[1] && marks[1] < marks[2]
		m, e := congestions.NewMeter([3]int(marks))
		if (e == api.OK) != valid || (m != nil) != valid {
			t.Fatalf("NewMeter(%v) is %v, %d", marks, m, e)
		}
		if !valid {
			continue
		}
		for lengths := range 11 * 11 * 11 {
			m, x := metered(t, marks...), &marked{marks: marks}
			for _, length := range []int{lengths / 121, lengths / 11 % 11, lengths % 11} {
				x.sameSet(t, m, length-1)
			}
		}
	}
}

// TestLargeMeters compares meters with their models over many lengths near the marks and their halves. (P19.2)
func TestLargeMeters(t *testing.T) {
	var rnd random
	for range 2000 {
		marks := []int{1 + rnd.below(9), 0, 0}
		if rnd.below(4) == 0 {
			marks[0] = most - 2000 + rnd.below(1000)
		}
		marks[1] = marks[0] + 1 + rnd.below(20)
		marks[2] = marks[1] + 1 + rnd.below(20)
		m, x := metered(t, marks...), &marked{marks: marks}
		for range 100 {
			length := marks[rnd.below(3)] >> rnd.below(2)
			x.sameSet(t, m, length+rnd.below(5)-2)
			if rnd.below(10) == 0 {
				x.sameSet(t, m, []int{least, -1, 0, most}[rnd.below(4)])
			}
		}
	}
}

// TestMeterConsequences checks that the level is not below the reached one, and that it changes as the length does. (P19.6)
func TestMeterConsequences(t *testing.T) {
	var rnd random
	for range 1000 {
		marks := []int{1 + rnd.below(20), 0, 0}
		marks[1] = marks[0] + 1 + rnd.below(20)
		marks[2] = marks[1] + 1 + rnd.below(20)
		m, x := metered(t, marks...), &marked{marks: marks}
		length, before := 0, 0
		for range 20 {
			up := rnd.below(2) == 0
			for range rnd.below(20) {
				step := rnd.below(10)
				if !up {
					step = -step
				}
				length += step
				level, _ := m.Set(length)
				if level < x.reached(length) || level > 3 || congestions.Sheds(level, 3) {
					t.Fatalf("with the marks %v, the level is %d at the length %d", marks, level, length)
				}
				if up && level < before || !up && level > before {
					t.Fatalf("with the marks %v, the level went from %d to %d when the length changed by %d to %d", marks, before, level, step, length)
				}
				before = level
			}
		}
	}
}

// heard is what a control has heard once.
type heard struct {
	at    int
	to    api.Point
	level int
}

// known is a control that follows the definitions: it looks up everything in what it has heard.
type known struct {
	base  int
	heard []heard
}

// levelOf returns the level of a destination at a tick.
func (x *known) levelOf(now int, to api.Point) int {
	for _, h := range slices.Backward(x.heard) {
		if h.to != to {
			continue
		}
		passed := new(big.Int).Sub(big.NewInt(int64(now)), big.NewInt(int64(h.at)))
		if passed.Sign() < 0 {
			return h.level
		}
		lowered := passed.Div(passed, big.NewInt(int64(x.base)))
		if lowered.Cmp(big.NewInt(int64(h.level))) >= 0 {
			return 0
		}
		return h.level - int(lowered.Int64())
	}
	return 0
}

// others returns the other destinations that have a level above 0 at a tick.
func (x *known) others(now int, to api.Point) []api.Point {
	var out []api.Point
	for _, h := range x.heard {
		if h.to != to && !slices.Contains(out, h.to) && x.levelOf(now, h.to) > 0 {
			out = append(out, h.to)
		}
	}
	return out
}

// hear returns what Hear returns.
func (x *known) hear(h heard) api.Errno {
	switch {
	case h.level < 0 || h.level > 3 || h.to > 16383:
		return api.ErrArg
	case len(x.others(h.at, h.to)) >= 64:
		return api.ErrFull
	}
	x.heard = append(x.heard, h)
	return api.OK
}

// sameHear tells a control and its model the same, and compares the results.
func (x *known) sameHear(t *testing.T, c *control, h heard) api.Errno {
	t.Helper()
	got := c.Hear(h.at, h.to, h.level)
	if want := x.hear(h); got != want {
		t.Fatalf("with the base %d, Hear(%d, %d, %d) is %d, not %d, after %v", x.base, h.at, h.to, h.level, got, want, x.heard)
	}
	return got
}

// sameLevel compares the level of a destination with the one in the model.
func (x *known) sameLevel(t *testing.T, c *control, now int, to api.Point) {
	t.Helper()
	got := c.Level(now, to)
	if want := x.levelOf(now, to); got != want {
		t.Fatalf("with the base %d, Level(%d, %d) is %d, not %d, after %v", x.base, now, to, got, want, x.heard)
	}
	if got < 0 || got > 3 || congestions.Sheds(got, 3) {
		t.Fatalf("Level(%d, %d) is %d", now, to, got)
	}
}

// tick returns a tick that is often one that matters: one near a record or near the tick at which a level is lowered, or near the ends of the range of int.
func (x *known) tick(rnd *random) int {
	now, by := rnd.below(100), rnd.below(5)-2
	if len(x.heard) > 0 && rnd.below(4) > 0 {
		now = x.heard[rnd.below(len(x.heard))].at
		for range rnd.below(4) {
			if now > most-x.base {
				break
			}
			now += x.base
		}
	}
	switch {
	case rnd.below(12) == 0:
		return []int{least, most, 0}[rnd.below(3)]
	case by > 0 && now > most-by || by < 0 && now < least-by:
		return now
	}
	return now + by
}

// TestControls compares controls with their models over many acts with a few destinations. (P19.5, P19.6)
func TestControls(t *testing.T) {
	var rnd random
	points := []api.Point{0, 7, 8, 16383, 16384, 65535}
	levels := []int{0, 1, 1, 2, 2, 3, 3, 3, -1, 4}
	for range 1000 {
		base := []int{1, 2, 3, 10, 1 << 40, 1 << 62, most}[rnd.below(7)]
		c, x := controlled(t, base), &known{base: base}
		for range 40 {
			x.sameHear(t, c, heard{x.tick(&rnd), points[rnd.below(6)], levels[rnd.below(10)]})
			for _, to := range points {
				x.sameLevel(t, c, x.tick(&rnd), to)
			}
		}
	}
}

// TestCrowds compares controls with their models while many destinations come and go, and the ticks go back at times. (P19.5)
func TestCrowds(t *testing.T) {
	var rnd random
	errors := map[api.Errno]int{}
	for range 40 {
		base := 20 + rnd.below(80)
		c, x := controlled(t, base), &known{base: base}
		now := 0
		for range 400 {
			now += rnd.below(3)
			at := now
			if rnd.below(10) == 0 {
				at -= rnd.below(200)
			}
			errors[x.sameHear(t, c, heard{at, api.Point(rnd.below(120)), min(rnd.below(10), 3)})]++
			x.sameLevel(t, c, at, api.Point(rnd.below(120)))
		}
	}
	if errors[api.OK] < 5000 || errors[api.ErrFull] < 2000 {
		t.Error("the errors are", errors)
	}
}
