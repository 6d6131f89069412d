package alignments_test

import (
	"math"
	"reflect"
	"testing"

	"pointcode/alignments"
	"pointcode/api"
	"pointcode/units"
)

const maxTicks = 1048576

// edges are numbers around the limits of valid times.
var edges = []int{math.MinInt, math.MinInt32, -maxTicks, -1, 0, 1, 2, 255, 256, maxTicks - 1, maxTicks, maxTicks + 1, 1 << 31, 1 << 32, 1<<32 + 1, math.MaxInt}

// fields returns the fields of times.
func fields(x *alignments.Times) [7]*int {
	return [7]*int{&x.Seek, &x.Hold, &x.Normal, &x.Emergency, &x.Few, &x.Fewer, &x.Most}
}

// ways returns acts that lead to each phase with the times of the example.
func ways() [6]string {
	return [6]string{"", "S", "S0", "S01", "S01...", "S03"}
}

func TestPhases(t *testing.T) {
	all := []alignments.Phase{alignments.Idle, alignments.Seeking, alignments.Aligned, alignments.Proving, alignments.Ready, alignments.Stopped}
	for i, p := range all {
		if int(p) != i {
			t.Errorf("phase %d is %d", i, p)
		}
		if got := behind(t, example, ways()[i]).Phase(); got != p {
			t.Errorf("%s leads to phase %d, not %d", ways()[i], got, p)
		}
	}
	const constant = 255 + alignments.Idle // a constant of eight bits
	if reflect.TypeOf(constant) != reflect.TypeOf(alignments.Phase(0)) || reflect.TypeOf(constant).Kind() != reflect.Uint8 {
		t.Errorf("a phase is a %v", reflect.TypeOf(constant))
	}
}

// P9.1

func TestUsual(t *testing.T) {
	want := alignments.Times{Seek: 120, Hold: 30, Normal: 80, Emergency: 6, Few: 4, Fewer: 1, Most: 5}
	if got := alignments.Usual(); got != want {
		t.Errorf("%+v", got)
	}
	is(t, "usual times", made(t, alignments.Usual()), alignments.Idle, 0, 0)
}

// TestUsualTimes follows the usual times through the phases.
func TestUsualTimes(t *testing.T) {
	x := behind(t, alignments.Usual(), "S")
	is(t, "seeking", x, alignments.Seeking, 120, 0)
	do(x, '0')
	is(t, "aligned", x, alignments.Aligned, 30, 0)
	do(x, '1')
	is(t, "proving", x, alignments.Proving, 80, 1)
	for k := range 16 {
		is(t, "wrong units", x, alignments.Proving, 80, 1+k/4)
		do(x, 'x')
	}
	is(t, "the last proving", x, alignments.Proving, 80, 5)
	for range 4 {
		do(x, 'x')
	}
	is(t, "too many", x, alignments.Stopped, 0, 5)
	for _, c := range "E04" {
		do(x, byte(c))
	}
	is(t, "emergency", x, alignments.Proving, 6, 1)
	do(x, 'x')
	is(t, "a wrong unit", x, alignments.Proving, 6, 2)
}

func TestNew(t *testing.T) {
	for _, times := range small() {
		x, other := made(t, times), made(t, times)
		is(t, "new", x, alignments.Idle, 0, 0)
		if v := look(x); v != (view{}) {
			t.Errorf("a new alignment: %+v", v)
		}
		for _, c := range "E04x2" {
			do(x, byte(c))
		}
		if v := look(other); v != (view{}) {
			t.Errorf("another alignment: %+v", v)
		}
		if v := look(made(t, times)); v != (view{}) {
			t.Errorf("an alignment behind it: %+v", v)
		}
	}
}

// TestTogether lets two alignments with different times prove in turns.
func TestTogether(t *testing.T) {
	a := behind(t, alignments.Times{Seek: 5, Hold: 5, Normal: 9, Emergency: 9, Few: 3, Fewer: 3, Most: 2}, "S01")
	b := behind(t, alignments.Times{Seek: 5, Hold: 5, Normal: 7, Emergency: 7, Few: 2, Fewer: 2, Most: 3}, "S01")
	for _, want := range [][2]int{{1, 1}, {1, 2}, {2, 2}, {2, 3}, {2, 3}} {
		do(a, 'x')
		do(b, 'x')
		is(t, "the first", a, alignments.Proving, 9, want[0])
		is(t, "the second", b, alignments.Proving, 7, want[1])
	}
	do(a, 'x')
	do(b, 'x')
	is(t, "the first", a, alignments.Stopped, 0, 2)
	is(t, "the second", b, alignments.Stopped, 0, 3)
}

// TestTimes gives each pair of fields every edge.
func TestTimes(t *testing.T) {
	for i := range 7 {
		for k := range 7 {
			for _, a := range edges {
				for _, b := range edges {
					times := example
					*fields(&times)[i] = a
					*fields(&times)[k] = b
					valid := true
					for _, n := range fields(&times) {
						valid = valid && 1 <= *n && *n <= maxTicks
					}
					x, e := alignments.New(times)
					if valid && (x == nil || e != api.OK) || !valid && (x != nil || e != api.ErrArg) {
						t.Fatalf("New(%+v): %v, %d", times, x, e)
					}
				}
			}
		}
	}
	for _, n := range []int{1, maxTicks} {
		is(t, "equal times", made(t, alignments.Times{Seek: n, Hold: n, Normal: n, Emergency: n, Few: n, Fewer: n, Most: n}), alignments.Idle, 0, 0)
	}
	if x, e := alignments.New(alignments.Times{}); x != nil || e != api.ErrArg {
		t.Errorf("New without times: %v, %d", x, e)
	}
}

// TestGreatestTimes uses up the greatest times.
func TestGreatestTimes(t *testing.T) {
	const n = maxTicks
	greatest := alignments.Times{Seek: n, Hold: n, Normal: n, Emergency: n, Few: n, Fewer: n, Most: n}
	for _, c := range []struct {
		text string
		end  alignments.Phase
	}{
		{"S", alignments.Stopped},
		{"E0", alignments.Stopped},
		{"S01", alignments.Ready},
		{"E01", alignments.Ready},
	} {
		x := behind(t, greatest, c.text)
		phase, provings := x.Phase(), x.Provings()
		for range n - 1 {
			do(x, '.')
		}
		is(t, c.text, x, phase, 1, provings)
		do(x, '.')
		is(t, c.text, x, c.end, 0, provings)
	}
	for _, text := range []string{"S01", "E01"} {
		x := behind(t, greatest, text)
		for range n - 1 {
			do(x, 'x')
		}
		is(t, text, x, alignments.Proving, n, 1)
		do(x, 'x')
		is(t, text, x, alignments.Proving, n, 2)
	}
	greatest.Few = 1
	x := behind(t, greatest, "S01")
	for range n - 1 {
		do(x, 'x')
	}
	is(t, "the last proving", x, alignments.Proving, n, n)
	do(x, 'x')
	is(t, "too many", x, alignments.Stopped, 0, n)
}

// P9.2

func TestStart(t *testing.T) {
	for i, text := range ways() {
		for _, emergency := range []bool{false, true} {
			x := behind(t, example, text)
			before := look(x)
			e := x.Start(emergency)
			if p := alignments.Phase(i); p == alignments.Idle || p == alignments.Stopped {
				if e != api.OK {
					t.Errorf("Start in phase %d: %d", i, e)
				}
				is(t, "started", x, alignments.Seeking, 5, 0)
			} else if e != api.ErrState || look(x) != before {
				t.Errorf("Start in phase %d: %d, %+v", i, e, look(x))
			}
		}
	}
}

// TestStartThatIsRefused does not make an alignment urgent, nor less so.
func TestStartThatIsRefused(t *testing.T) {
	x := behind(t, example, "S")
	for _, c := range "E0E1E" {
		if e := do(x, byte(c)); (e == api.ErrState) != (c == 'E') {
			t.Errorf("%c: %d", c, e)
		}
	}
	is(t, "not urgent", x, alignments.Proving, 3, 1)
	do(x, 'x')
	is(t, "not urgent", x, alignments.Proving, 3, 1)
	y := behind(t, example, "E0")
	if e := y.Start(false); e != api.ErrState {
		t.Error(e)
	}
	do(y, '1')
	is(t, "urgent", y, alignments.Proving, 1, 1)
	if s, ok := y.Sends(); s != units.Emergency || !ok {
		t.Errorf("it sends %d, %t", s, ok)
	}
}

// TestStartForgets starts again behind everything that an alignment remembers.
func TestStartForgets(t *testing.T) {
	for _, text := range []string{
		"S-", "E-", "S0-", "S01-", "E01-", "S02-", "S012-", "S2-", "S01x-", "S01xx-", "S01xxx-", "S01xxxx", "E01xx", "S01..-", "S01...-", "S01.01.0-",
		"S.....", "S0....", "E03", "S013", "E013", "S0123", "S01-", "S01--", "E2-S-", "S-E02-",
	} {
		x := behind(t, example, text)
		do(x, 'S')
		is(t, text+" S", x, alignments.Seeking, 5, 0)
		for _, c := range "01xx" {
			do(x, byte(c))
		}
		is(t, text+" S01xx", x, alignments.Proving, 3, 2)
		if s, ok := x.Sends(); s != units.Normal || !ok {
			t.Errorf("%s S01xx sends %d, %t", text, s, ok)
		}
		do(x, 'x')
		is(t, text+" S01xxx", x, alignments.Proving, 3, 2)
		do(x, 'x')
		is(t, text+" S01xxxx", x, alignments.Stopped, 0, 2)
	}
}

func TestStop(t *testing.T) {
	for _, c := range []struct {
		text     string
		provings int
	}{
		{"", 0}, {"-", 0}, {"S", 0}, {"E..", 0}, {"S0", 0}, {"S01", 1}, {"S01xx", 2}, {"S012", 2}, {"S01...", 1}, {"S03", 0}, {"S01xxxx", 2}, {"S.....", 0},
	} {
		x := behind(t, example, c.text)
		for range 2 {
			if e := x.Stop(); e != api.OK {
				t.Errorf("Stop behind %s: %d", c.text, e)
			}
			is(t, c.text+" -", x, alignments.Idle, 0, c.provings)
			if s, ok := x.Sends(); s != 0 || ok {
				t.Errorf("%s: an idle alignment sends %d, %t", c.text, s, ok)
			}
		}
	}
}

// P9.3

// TestTable performs each event of the table in each of its phases, after a tick, as a phase that is entered again has all its ticks.
func TestTable(t *testing.T) {
	const idle, seeking, aligned, proving, ready, stopped = alignments.Idle, alignments.Seeking, alignments.Aligned, alignments.Proving, alignments.Ready, alignments.Stopped
	for _, c := range []struct {
		text     string
		phase    alignments.Phase
		left     int
		provings int
	}{
		{"S.", seeking, 4, 0},
		{"S.0", aligned, 4, 0},
		{"S.1", aligned, 4, 0},
		{"S.2", aligned, 4, 0},
		{"S.3", seeking, 4, 0},
		{"S.4", seeking, 4, 0},
		{"S.5", seeking, 4, 0},
		{"S.x", seeking, 4, 0},
		{"S....", seeking, 1, 0},
		{"S.....", stopped, 0, 0},
		{"S0.", aligned, 3, 0},
		{"S0.0", aligned, 3, 0},
		{"S0.1", proving, 3, 1},
		{"S0.2", proving, 1, 1},
		{"S0.3", stopped, 0, 0},
		{"S0.4", proving, 3, 1},
		{"S0.5", proving, 3, 1},
		{"S0.x", aligned, 3, 0},
		{"S0...", aligned, 1, 0},
		{"S0....", stopped, 0, 0},
		{"S01.", proving, 2, 1},
		{"S01.0", aligned, 4, 1},
		{"S01.1", proving, 2, 1},
		{"S01.2", proving, 1, 2},
		{"S01.3", stopped, 0, 1},
		{"S01.4", proving, 2, 1},
		{"S01.5", proving, 2, 1},
		{"S01.x", proving, 2, 1},
		{"S01.xx", proving, 3, 2},
		{"S01.xx.xx", stopped, 0, 2},
		{"S01..", proving, 1, 1},
		{"S01...", ready, 0, 1},
		{"-.0123450x", idle, 0, 0},
		{"S01....0123450x.", ready, 0, 1},
		{"S03.0123450x.", stopped, 0, 0},
	} {
		is(t, c.text, behind(t, example, c.text), c.phase, c.left, c.provings)
	}
}

// TestUrgent follows what makes an alignment urgent, which its ticks and its wrong units show.
func TestUrgent(t *testing.T) {
	times := alignments.Times{Seek: 9, Hold: 8, Normal: 7, Emergency: 5, Few: 4, Fewer: 2, Most: 3}
	for _, c := range []struct {
		text     string
		left     int
		provings int
	}{
		{"S01", 7, 1},
		{"S11", 7, 1},
		{"S04", 7, 1},
		{"S05", 7, 1},
		{"E01", 5, 1},
		{"E04", 5, 1},
		{"E05", 5, 1},
		{"E02", 5, 1},
		{"S21", 5, 1},
		{"S24", 5, 1},
		{"S02", 5, 1},
		{"S01.2", 5, 2},
		{"S01.22", 5, 2},
		{"S01.2.2", 4, 2},
		{"S01.2.01", 5, 3},
		{"E01.2", 4, 1},
		{"S21.2", 4, 1},
		{"S02.2", 4, 1},
		{"S02.01", 5, 2},
		{"S02.01.2", 4, 2},
		{"S01.01.2", 5, 3},
		{"S01.01.01.2", 5, 4}, // beyond Most
		{"S01.01.01.01.2", 5, 5},
		{"S01.01.01.01.1", 6, 4},
		{"S01xxx", 7, 1},
		{"S01xxxx", 7, 2},
		{"S01xxx2x", 5, 2},
		{"S01xxx2xx", 5, 3},
		{"S01xxx01xxx", 7, 2},
		{"S01xxxxxxx", 7, 2},
		{"E01x", 5, 1},
		{"E01xx", 5, 2},
		{"E01x2x", 5, 2},
		{"S01.1x4x5x", 6, 1},
		{"S01.1x4x5xx", 7, 2},
	} {
		is(t, c.text, behind(t, times, c.text), alignments.Proving, c.left, c.provings)
	}
	for _, text := range []string{"S01xxxxxxxxxxxx", "E01xxxxxx", "S01.01.01xxxx", "S01.01.01.2xx", "S01.01.01.01.01xxxx", "S01.01.01.01.01.2xx", "S02xxxxxx", "S01xxxxxxxx2xx"} {
		x := behind(t, times, text[:len(text)-1])
		if x.Phase() != alignments.Proving {
			t.Errorf("%s: phase %d before the last unit", text, x.Phase())
		}
		do(x, 'x')
		if x.Phase() != alignments.Stopped || x.Left() != 0 {
			t.Errorf("%s: phase %d", text, x.Phase())
		}
	}
}

// TestFewerAboveFew lets an urgent alignment have more wrong units, and more ticks.
func TestFewerAboveFew(t *testing.T) {
	times := alignments.Times{Seek: 2, Hold: 2, Normal: 2, Emergency: 6, Few: 1, Fewer: 3, Most: 4}
	is(t, "not urgent", behind(t, times, "S01x"), alignments.Proving, 2, 2)
	is(t, "urgent", behind(t, times, "S02xx"), alignments.Proving, 6, 1)
	is(t, "urgent", behind(t, times, "S01.2xx"), alignments.Proving, 6, 2)
	is(t, "urgent", behind(t, times, "S01.2xxx"), alignments.Proving, 6, 3)
}

// TestStatuses lets alignments hear every number in every phase, urgent or not.
func TestStatuses(t *testing.T) {
	for _, text := range []string{"", "S", "S0", "S01", "S01...", "S03", "E", "E0", "E01", "E01.", "E03", "S2", "S02", "S012", "E-"} {
		x := behind(t, example, text)
		before := look(x)
		for status := 6; status < 256; status++ {
			if e := x.Hear(uint8(status)); e != api.ErrArg || look(x) != before {
				t.Fatalf("%s: Hear(%d): %d, %+v", text, status, e, look(x))
			}
		}
		for status := range 6 {
			if e := behind(t, example, text).Hear(uint8(status)); e != api.OK {
				t.Errorf("%s: Hear(%d): %d", text, status, e)
			}
		}
	}
}

// P9.4

// TestSends tells an alignment that was started for an emergency from one that has only heard Emergency.
func TestSends(t *testing.T) {
	const none = 255
	for text, want := range map[string][]uint8{
		"":          {},
		"S":         {units.Out},
		"E":         {units.Out},
		"S01":       {units.Out, units.Normal, units.Normal},
		"E01":       {units.Out, units.Emergency, units.Emergency},
		"S22":       {units.Out, units.Normal, units.Normal},
		"S012":      {units.Out, units.Normal, units.Normal, units.Normal},
		"E010":      {units.Out, units.Emergency, units.Emergency, units.Emergency},
		"S01...":    {units.Out, units.Normal, units.Normal, units.Normal, units.Normal, none},
		"E01.":      {units.Out, units.Emergency, units.Emergency, none},
		"S03":       {units.Out, units.Normal, units.Stopped},
		"E03.":      {units.Out, units.Emergency, units.Stopped, units.Stopped},
		"S-":        {units.Out, none},
		"E01xx":     {units.Out, units.Emergency, units.Emergency, units.Emergency, units.Stopped},
		"E0-S0":     {units.Out, units.Emergency, none, units.Out, units.Normal},
		"S03E0":     {units.Out, units.Normal, units.Stopped, units.Out, units.Emergency},
		"S.....":    {units.Out, units.Out, units.Out, units.Out, units.Out, units.Stopped},
		"S01...-":   {units.Out, units.Normal, units.Normal, units.Normal, units.Normal, none, none},
		"S01.0....": {units.Out, units.Normal, units.Normal, units.Normal, units.Normal, units.Normal, units.Normal, units.Normal, units.Stopped},
	} {
		x := made(t, example)
		for i := range len(text) + 1 {
			status, sends := uint8(none), true
			if i > 0 {
				status = want[i-1]
			}
			if status == none {
				status, sends = 0, false
			}
			if s, ok := x.Sends(); s != status || ok != sends {
				t.Errorf("%s sends %d, %t", text[:i], s, ok)
			}
			if i < len(text) {
				do(x, text[i])
			}
		}
	}
}

// TestLeft asks for the ticks of every phase.
func TestLeft(t *testing.T) {
	for i, want := range []int{0, 5, 4, 3, 0, 0} {
		if got := behind(t, example, ways()[i]).Left(); got != want {
			t.Errorf("%d ticks left in phase %d, not %d", got, i, want)
		}
	}
}

// TestProvings counts more provings than Most, which limits only those after too many wrong units.
func TestProvings(t *testing.T) {
	x := behind(t, example, "S0")
	for k := range 100 {
		do(x, '1')
		is(t, "proving", x, alignments.Proving, 3, k+1)
		do(x, '0')
		is(t, "aligned", x, alignments.Aligned, 4, k+1)
	}
}

// P1, R5

func TestNoAlignment(t *testing.T) {
	for what, x := range map[string]*alignments.Alignment{"nil": nil, "zero": new(alignments.Alignment)} {
		for range 3 {
			for i := range len(acts) {
				if e := do(x, acts[i]); e != api.ErrNil {
					t.Errorf("%s: %c returns %d", what, acts[i], e)
				}
			}
			for status := range 256 {
				if e := x.Hear(uint8(status)); e != api.ErrNil {
					t.Errorf("%s: Hear(%d) returns %d", what, status, e)
				}
			}
			if v := look(x); v != (view{}) {
				t.Errorf("%s: %+v", what, v)
			}
		}
	}
}

func TestObject(t *testing.T) {
	object := reflect.TypeFor[alignments.Alignment]()
	if object.Kind() != reflect.Struct {
		t.Fatalf("an Alignment is a %v", object.Kind())
	}
	for i := range object.NumField() {
		if f := object.Field(i); f.IsExported() {
			t.Errorf("an Alignment has the field %s", f.Name)
		}
	}
}
