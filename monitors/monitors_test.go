package monitors_test

import (
	"math"
	"reflect"
	"slices"
	"strings"
	"testing"

	"pointcode/api"
	"pointcode/monitors"
)

// examples are those of the chapter, and the edge cases of its definitions.
var examples = []struct {
	spec
	units  string
	levels []int
	first  int
}{
	{spec{rate, []int{3, 4}}, "x.x.xx", []int{1, 1, 2, 1, 2, 3}, 6},
	{spec{rate, []int{3, 4}}, "x.x.x", []int{1, 1, 2, 1, 2}, -1},
	{spec{rate, []int{3, 4}}, "xx.x....", []int{1, 2, 2, 3, 3, 3, 3, 3}, 4}, // over with the unit that would decrease the level
	{spec{rate, []int{3, 4}}, "....x...x", []int{0, 0, 0, 0, 1, 1, 1, 0, 1}, -1},
	{spec{rate, []int{2, 3}}, "..xx....x..xx", []int{0, 0, 0, 1, 1, 0, 0, 0, 0, 0, 0, 0, 1}, -1},
	{spec{rate, []int{1, 1}}, "..x..", []int{0, 0, 1, 1, 1}, 3},
	{spec{rate, []int{2, 1}}, "xxxxx", []int{0, 0, 0, 0, 0}, -1},
	{spec{rate, []int{9, 2}}, "xxxxxx..", []int{1, 1, 2, 2, 3, 3, 3, 2}, -1},
	{spec{sum, []int{2}}, ".x.x.", []int{0, 1, 1, 2, 2}, 4},
	{spec{sum, []int{1}}, "...x", []int{0, 0, 0, 1}, 4},
	{spec{sum, []int{3}}, "xxxxx", []int{1, 2, 3, 3, 3}, 3},
	{spec{sum, []int{3}}, "xx......", []int{1, 2, 2, 2, 2, 2, 2, 2}, -1},
	{spec{span, []int{4, 2, 3, 1}}, ".x..xx..", []int{0, 3, 3, 2, 2, 4, 4, 4}, 6},
	{spec{span, []int{4, 2, 3, 1}}, "x..xxx..", []int{0, 3, 3, 4, 4, 4, 4, 4}, 4},
	{spec{span, []int{4, 2, 2, 1}}, "xx....x.x.x", []int{0, 2, 2, 1, 1, 0, 0, 2, 2, 4, 4}, 10}, // reaches the limit exactly
	{spec{span, []int{2, 3, 1, 9}}, "..xxx....", []int{0, 0, 1, 1, 1, 2, 2, 2, 2}, 6},
	{spec{span, []int{9, 3, 4, 9}}, "..x.....", []int{0, 0, 4, 4, 4, 0, 0, 0}, -1},
	{spec{span, []int{9, 4, 9, 1}}, "xxx", []int{0, 0, 0}, -1},
	{spec{span, []int{5, 1, 9, 1}}, "..x.", []int{0, 0, 5, 5}, 3},
}

// P8.1

func TestNew(t *testing.T) {
	for _, s := range specs() {
		m, other := made(t, s), made(t, s)
		check(t, "a new monitor", m, s.l[0], 0)
		for range 100 {
			m.Count(false)
		}
		check(t, "another monitor", other, s.l[0], 0)
		check(t, "a new monitor behind it", made(t, s), s.l[0], 0)
	}
}

// TestArguments gives each argument of each kind every edge, alone and with others.
func TestArguments(t *testing.T) {
	edges := []int{math.MinInt, math.MinInt32, -api.MaxTicks, -1, 0, 1, 2, 3, 255, 256, api.MaxTicks - 1, api.MaxTicks, api.MaxTicks + 1, 1 << 31, 1 << 32, 1<<32 + 1, math.MaxInt}
	test := func(s spec) {
		valid := true
		for _, v := range s.l {
			valid = valid && 1 <= v && v <= 1048576
		}
		m, e := create(s)
		if valid && (m == nil || e != api.OK) || !valid && (m != nil || e != api.ErrArg) {
			t.Fatalf("%v: %v, %d", s, m, e)
		}
		if valid {
			check(t, "a new monitor", m, s.l[0], 0)
		}
	}
	for _, a := range edges {
		test(spec{sum, []int{a}})
		for _, b := range edges {
			test(spec{rate, []int{a, b}})
			for _, c := range edges {
				for _, d := range edges {
					test(spec{span, []int{a, b, c, d}})
				}
			}
		}
	}
}

// P8.2

func TestExamples(t *testing.T) {
	for _, x := range examples {
		m := made(t, x.spec)
		var got []int
		for i, ok := range parse(x.units) {
			m.Count(ok)
			got = append(got, m.Level())
			if over := x.first > 0 && i+1 >= x.first; m.Over() != over {
				t.Errorf("%v of %s is over behind unit %d: %t", x.spec, x.units, i+1, m.Over())
			}
		}
		if !slices.Equal(got, x.levels) {
			t.Errorf("%v of %s: %v, not %v", x.spec, x.units, got, x.levels)
		}
	}
}

// TestLevels counts every list of units.
func TestLevels(t *testing.T) {
	const n = 10
	for _, s := range specs() {
		m := made(t, s)
		for bits := range 1 << n {
			units := list(n, bits)
			m.Reset()
			for i, want := range levels(s, units) {
				m.Count(units[i])
				if m.Level() != want || m.Over() != (want == s.l[0]) {
					t.Fatalf("%v of %v: level %d, over %t behind unit %d, not %d", s, units, m.Level(), m.Over(), i+1, want)
				}
			}
		}
	}
}

// TestReset resets behind every list of units and counts every other one then.
func TestReset(t *testing.T) {
	const n = 5
	for _, s := range specs() {
		for before := range n + 1 {
			for bits := range 1 << before {
				for after := range 1 << n {
					m := made(t, s)
					for _, ok := range list(before, bits) {
						m.Count(ok)
					}
					m.Reset()
					check(t, "a monitor that was reset", m, s.l[0], 0)
					units := list(n, after)
					for i, want := range levels(s, units) {
						m.Count(units[i])
						if m.Level() != want || m.Over() != (want == s.l[0]) {
							t.Fatalf("%v of %v behind %v: level %d, over %t behind unit %d, not %d", s, units, list(before, bits), m.Level(), m.Over(), i+1, want)
						}
					}
				}
			}
		}
	}
}

func TestResetOfNew(t *testing.T) {
	for _, s := range specs() {
		m := made(t, s)
		m.Reset()
		m.Reset()
		check(t, "a monitor that was reset twice", m, s.l[0], 0)
		units := repeated(false, 30)
		if got, want := monitors.First(m, units...), first(s, units); got != want {
			t.Errorf("%v: First is %d, not %d", s, got, want)
		}
	}
}

// TestRandom counts long lists with greater arguments, and resets in between.
func TestRandom(t *testing.T) {
	var rnd random = 1
	for range 2000 {
		s := rnd.spec()
		m := made(t, s)
		for range 5 {
			units := rnd.units(300)
			for i, want := range levels(s, units) {
				m.Count(units[i])
				check(t, "a random list", m, s.l[0], want)
			}
			m.Reset()
		}
	}
}

func TestGreatestArguments(t *testing.T) {
	const most = api.MaxTicks
	for _, x := range []struct {
		spec
		units []bool
		level int
		first int
	}{
		{spec{sum, []int{most}}, repeated(false, most-1), most - 1, -1},
		{spec{sum, []int{most}}, repeated(false, most), most, most},
		{spec{sum, []int{most}}, repeated(false, most+5), most, most},
		{spec{rate, []int{most, most}}, repeated(false, most-1), most - 1, -1},
		{spec{rate, []int{most, most}}, repeated(false, most), most, most},
		{spec{rate, []int{2, most}}, append([]bool{false}, repeated(true, most-2)...), 1, -1},
		{spec{rate, []int{2, most}}, append([]bool{false}, repeated(true, most-1)...), 0, -1},
		{spec{rate, []int{2, most}}, append(repeated(true, most-1), false, false, false), 2, most + 2},
		{spec{rate, []int{most, 1}}, repeated(false, 1000), 0, -1},
		{spec{span, []int{most, 1, most, most}}, []bool{false}, most, 1},
		{spec{span, []int{most, 1, most - 1, most}}, []bool{false}, most - 1, -1},
		{spec{span, []int{most, 1, most - 1, most}}, []bool{false, true}, 0, -1},
		{spec{span, []int{most, 1, most - 1, most}}, []bool{false, true, false, false}, most, 4},
		{spec{span, []int{1, most, most, most}}, repeated(false, most-1), 0, -1},
		{spec{span, []int{1, most, 1, 1}}, append([]bool{false}, repeated(true, most-1)...), 1, most},
		{spec{span, []int{1, most, 1, 1}}, append(repeated(true, most), false), 0, -1},
		{spec{span, []int{1, 1, most, 1}}, []bool{false, true}, 1, 1},
	} {
		m := made(t, x.spec)
		if n := monitors.First(m, x.units...); n != x.first {
			t.Errorf("%v: First of %d units is %d, not %d", x.spec, len(x.units), n, x.first)
		}
		check(t, "the greatest arguments", m, x.l[0], x.level)
	}
}

// P8.3

func TestFirst(t *testing.T) {
	for _, x := range examples {
		m := made(t, x.spec)
		units := parse(x.units)
		if n := monitors.First(m, units...); n != x.first {
			t.Errorf("%v: First of %s is %d, not %d", x.spec, x.units, n, x.first)
		}
		check(t, x.units, m, x.l[0], x.levels[len(units)-1])
		if want := min(x.first, 0); monitors.First(m) != want {
			t.Errorf("%v: First of no units behind %s is not %d", x.spec, x.units, want)
		}
	}
}

// TestFirstOfAll compares First for every list with the definition, with and without units that were counted before.
func TestFirstOfAll(t *testing.T) {
	const n = 8
	for _, s := range specs() {
		for bits := range 1 << n {
			units := list(n, bits)
			whole := first(s, units)
			for _, before := range []int{0, 1, 3} {
				m := made(t, s)
				for _, ok := range units[:before] {
					m.Count(ok)
				}
				want := whole
				if whole > 0 {
					want = max(whole-before, 0)
				}
				if got := monitors.First(m, units[before:]...); got != want {
					t.Fatalf("%v: First of %v behind %v is %d, not %d", s, units[before:], units[:before], got, want)
				}
				l := levels(s, units)
				check(t, "behind First", m, s.l[0], l[n-1])
			}
		}
	}
}

func TestFirstOfNothing(t *testing.T) {
	for _, s := range specs() {
		m := made(t, s)
		if a, b, c := monitors.First(m), monitors.First(m, nil...), monitors.First(m, []bool{}...); a != -1 || b != -1 || c != -1 {
			t.Errorf("%v: First of no units is %d, %d, %d", s, a, b, c)
		}
		if n := monitors.First(m, repeated(false, 100)...); n < 0 {
			continue // a Rate monitor that forgets each unit at once
		}
		for _, units := range [][]bool{nil, {}, {true}, {false}, {false, true, false}} {
			if n := monitors.First(m, units...); n != 0 {
				t.Errorf("%v: First of %v is %d when it is over before", s, units, n)
			}
			check(t, "over before", m, s.l[0], s.l[0])
		}
	}
}

func TestFirstOfNil(t *testing.T) {
	for _, units := range [][]bool{nil, {}, {true}, {false}, repeated(false, 1000)} {
		if n := monitors.First(nil, units...); n != -1 {
			t.Errorf("First of nil and %d units is %d", len(units), n)
		}
	}
}

// heard is a monitor that writes down what it is asked, and is over behind some units.
type heard struct {
	calls strings.Builder
	left  int
}

func (h *heard) Count(ok bool) {
	h.left--
	if ok {
		h.calls.WriteByte('.')
	} else {
		h.calls.WriteByte('x')
	}
}

func (h *heard) Over() bool { return h.left <= 0 }

func (h *heard) Level() int { panic("no level") }

func (h *heard) Reset() { panic("no reset") }

// TestFirstCallsTheMonitor holds First against a monitor of its caller.
func TestFirstCallsTheMonitor(t *testing.T) {
	const n = 6
	for bits := range 1 << n {
		units := list(n, bits)
		var text strings.Builder
		for _, ok := range units {
			text.WriteString(map[bool]string{true: ".", false: "x"}[ok])
		}
		for left := -1; left <= n+2; left++ {
			want := min(max(left, 0), n)
			h := &heard{left: left}
			got := monitors.First(h, units...)
			if h.calls.String() != text.String()[:want] {
				t.Fatalf("the monitor counted %s of %s", h.calls.String(), text.String())
			}
			if left > n {
				want = -1
			}
			if got != want {
				t.Fatalf("First of %s is %d, not %d", text.String(), got, want)
			}
		}
	}
}

// P8.4

// TestLevelsStayWithin uses random lists, for which a level must never leave its bounds.
func TestLevelsStayWithin(t *testing.T) {
	var rnd random = 2
	for range 2000 {
		s := rnd.spec()
		m := made(t, s)
		was := false
		for _, ok := range rnd.units(400) {
			m.Count(ok)
			level, over := m.Level(), m.Over()
			if level < 0 || level > s.l[0] || over != (level == s.l[0]) || was && !over {
				t.Fatalf("%v: level %d, over %t, over before %t", s, level, over, was)
			}
			was = over
		}
	}
}

// TestMoreWrongUnits compares every list with all in which more units are wrong.
func TestMoreWrongUnits(t *testing.T) {
	const n = 8
	for _, s := range specs() {
		var over [1 << n]int // the unit with which each list is over
		for bits := range over {
			over[bits] = monitors.First(made(t, s), list(n, bits)...)
			if over[bits] < 0 {
				over[bits] = n + 1
			}
		}
		for more := range over {
			for fewer := more; fewer > 0; {
				fewer = (fewer - 1) & more
				if over[more] > over[fewer] {
					t.Fatalf("%v is over behind %d units of %v, but behind %d of %v", s, over[fewer], list(n, fewer), over[more], list(n, more))
				}
			}
		}
	}
}

func TestRateIsOverOrNot(t *testing.T) {
	var rnd random = 3
	must, never := 0, 0
	for range 20000 {
		s := spec{rate, []int{1 + rnd.below(20), 1 + rnd.below(20)}}
		units := rnd.units(60)
		wrong, n := wrongOf(units), monitors.First(made(t, s), units...)
		if wrong >= s.l[0]+len(units)/s.l[1] {
			must++
			if n < 0 {
				t.Fatalf("%v of %v is not over", s, units)
			}
		}
		if wrong < s.l[0] {
			never++
			if n >= 0 {
				t.Fatalf("%v of %v is over behind %d units", s, units, n)
			}
		}
	}
	if must < 1000 || never < 1000 {
		t.Errorf("only %d lists must be over, and %d must not", must, never)
	}
}

func TestSumIsOverWithItsWrongUnit(t *testing.T) {
	var rnd random = 4
	for range 5000 {
		limit := 1 + rnd.below(20)
		units := rnd.units(100)
		want := -1
		for n := range units {
			if !units[n] && wrongOf(units[:n+1]) == limit {
				want = n + 1
			}
		}
		if got := monitors.First(made(t, spec{sum, []int{limit}}), units...); got != want {
			t.Fatalf("Sum(%d) of %v is over behind %d units, not %d", limit, units, got, want)
		}
	}
}

// TestSpansWithOneWrongUnit compares lists with those in which only one unit of each wrong span is wrong, or all of them are.
func TestSpansWithOneWrongUnit(t *testing.T) {
	var rnd random = 5
	for range 2000 {
		s := spec{span, []int{1 + rnd.below(20), 1 + rnd.below(8), 1 + rnd.below(6), 1 + rnd.below(6)}}
		size := s.l[1]
		units := rnd.units(100)
		units = units[:len(units)/size*size]
		one, all := repeated(true, len(units)), repeated(true, len(units))
		for from := 0; from < len(units); from += size {
			if wrongOf(units[from:from+size]) > 0 {
				one[from+rnd.below(size)] = false
				copy(all[from:], repeated(false, size))
			}
		}
		a, b, c := made(t, s), made(t, s), made(t, s)
		for i := range units {
			a.Count(units[i])
			b.Count(one[i])
			c.Count(all[i])
			if a.Level() != b.Level() || a.Level() != c.Level() || a.Over() != b.Over() || a.Over() != c.Over() {
				t.Fatalf("%v of %v: the levels are %d, %d, %d behind unit %d", s, units, a.Level(), b.Level(), c.Level(), i+1)
			}
		}
	}
}

// P1

// broken is a monitor that panics, and not only if it is nil.
type broken struct{ over, count bool }

func (b *broken) Count(bool) {
	if b.count {
		panic("count")
	}
}

func (b *broken) Over() bool {
	if b.over {
		panic(nil)
	}
	return false
}

func (b *broken) Level() int { return 0 }

func (b *broken) Reset() {}

func TestFirstDoesNotPanic(t *testing.T) {
	for _, m := range []monitors.Monitor{(*broken)(nil), &broken{over: true}, &broken{count: true}} {
		for _, units := range [][]bool{nil, {true}, {false, true}} {
			if n := monitors.First(m, units...); n != -1 {
				t.Errorf("First of %v and %v is %d", m, units, n)
			}
		}
	}
}

func TestFirstOfNilPointers(t *testing.T) {
	for _, s := range specs() {
		m := reflect.Zero(reflect.TypeOf(made(t, s))).Interface().(monitors.Monitor)
		if n := monitors.First(m, false, true); n != -1 {
			t.Errorf("First of a nil pointer of %v is %d", s, n)
		}
	}
}

// R1, R3

func TestFirstKeepsItsArguments(t *testing.T) {
	for _, s := range specs() {
		units := parse("x.xx..xx.x")
		all := slices.Clone(units)
		m := made(t, s)
		part := all[:4]
		n := monitors.First(m, part...)
		if !slices.Equal(all, units) {
			t.Fatalf("%v: First changes its units to %v", s, all)
		}
		for i := range all {
			all[i] = !all[i]
		}
		check(t, "behind a change of the units", m, s.l[0], levels(s, units[:4])[3])
		if n != first(s, units[:4]) {
			t.Errorf("%v: First is %d", s, n)
		}
	}
}

// R5

func TestObjects(t *testing.T) {
	for _, s := range specs() {
		m := made(t, s)
		object := reflect.TypeOf(m)
		if object.Kind() != reflect.Pointer || object.Elem().Kind() != reflect.Struct {
			t.Fatalf("%v is a %v", s, object)
		}
		for i := range object.Elem().NumField() {
			if f := object.Elem().Field(i); f.IsExported() {
				t.Errorf("%v has the field %s", s, f.Name)
			}
		}
		zero := reflect.New(object.Elem()).Interface().(monitors.Monitor)
		for _, ok := range []bool{true, false, false} {
			zero.Count(ok)
			zero.Reset()
		}
		if zero.Level() != 0 {
			t.Errorf("the zero monitor of %v has the level %d", s, zero.Level())
		}
	}
}
