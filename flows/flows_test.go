package flows_test

import (
	"math"
	"reflect"
	"strings"
	"testing"

	"pointcode/api"
	"pointcode/flows"
	"pointcode/units"
)

const maxTicks = 1048576

// edges are numbers around the limits of valid times.
var edges = []int{math.MinInt, math.MinInt32, -maxTicks, -1, 0, 1, 2, 255, 256, maxTicks - 1, maxTicks, maxTicks + 1, 1 << 31, 1 << 32, 1<<32 + 1, math.MaxInt}

// shows checks what a flow control tells behind each of the acts of a text: B or O if it sends Busy or Outage, otherwise - ; then a and l for acknowledgements and loads that are held, and f after a failure.
func shows(t *testing.T, times flows.Times, text, want string) {
	t.Helper()
	x := made(t, times)
	var got []string
	for i := range len(text) {
		if e := do(x, text[i]); e != api.OK {
			t.Errorf("%s: %c returns %d", text, text[i], e)
		}
		got = append(got, letters(look(x)))
	}
	if all := strings.Join(got, " "); all != want {
		t.Errorf("%s: %s, not %s", text, all, want)
	}
}

// letters returns the letters of what a flow control tells.
func letters(v view) string {
	out := "?"
	switch {
	case !v.sends && v.status == 0:
		out = "-"
	case v.sends && v.status == units.Outage:
		out = "O"
	case v.sends && v.status == units.Busy:
		out = "B"
	}
	for i, is := range []bool{v.acknowledgements, v.loads, v.failed} {
		if is {
			out += "alf"[i : i+1]
		}
	}
	return out
}

// P10.1

func TestUsual(t *testing.T) {
	want := flows.Times{Again: 2, Most: 60, Wait: 20}
	if got := flows.Usual(); got != want {
		t.Errorf("%+v", got)
	}
	shows(t, flows.Usual(), "C..", "Ba -a Ba")
	for text, n := range map[string]int{"5": 60, "w": 20} {
		x := behind(t, flows.Usual(), text+strings.Repeat(".", n-1))
		if x.Failed() {
			t.Errorf("%s: failed after %d ticks", text, n-1)
		}
		x.Tick()
		if !x.Failed() {
			t.Errorf("%s: not failed after %d ticks", text, n)
		}
	}
}

func TestNew(t *testing.T) {
	for _, times := range small() {
		x, other := made(t, times), made(t, times)
		for _, c := range "COw545" {
			if v := look(other); v != (view{}) {
				t.Errorf("another flow control: %+v", v)
			}
			do(x, byte(c))
		}
		if v := look(made(t, times)); v != (view{}) {
			t.Errorf("a flow control behind it: %+v", v)
		}
		for range 20 {
			if e := other.Tick(); e != api.OK || look(other) != (view{}) {
				t.Errorf("a flow control at the beginning: %d, %+v", e, look(other))
			}
		}
	}
}

// TestTimes gives the fields all edges.
func TestTimes(t *testing.T) {
	isValid := func(n int) bool { return 1 <= n && n <= maxTicks }
	for _, a := range edges {
		for _, b := range edges {
			for _, c := range edges {
				x, e := flows.New(flows.Times{Again: a, Most: b, Wait: c})
				valid := isValid(a) && isValid(b) && isValid(c)
				if valid && (x == nil || e != api.OK) || !valid && (x != nil || e != api.ErrArg) {
					t.Errorf("New(%d, %d, %d): %v, %d", a, b, c, x, e)
				}
			}
		}
	}
}

// TestGreatestTimes uses up the greatest times.
func TestGreatestTimes(t *testing.T) {
	const n = maxTicks
	greatest := flows.Times{Again: n, Most: n, Wait: n}
	for text, want := range map[string][2]view{
		"C":  {{acknowledgements: true}, {status: units.Busy, sends: true, acknowledgements: true}},
		"5":  {{}, {failed: true}},
		"w":  {{}, {failed: true}},
		"5w": {{}, {failed: true}},
		"4w": {{loads: true}, {loads: true}},
		"45": {{loads: true}, {loads: true, failed: true}},
	} {
		x := behind(t, greatest, text)
		for range n - 1 {
			x.Tick()
		}
		if v := look(x); v != want[0] {
			t.Errorf("%s: %+v, not %+v", text, v, want[0])
		}
		x.Tick()
		if v := look(x); v != want[1] {
			t.Errorf("%s: %+v, not %+v", text, v, want[1])
		}
	}
}

// P10.2

// TestCongest begins a congestion during one, and one behind another.
func TestCongest(t *testing.T) {
	times := flows.Times{Again: 3, Most: 9, Wait: 9}
	shows(t, times, "C.......", "Ba -a -a Ba -a -a Ba -a")
	shows(t, times, "C.C.C.C", "Ba -a -a -a -a Ba Ba")
	shows(t, times, "C.c.C...", "Ba -a - - Ba -a -a Ba")
	shows(t, times, "C.cC...", "Ba -a - Ba -a -a Ba")
	shows(t, times, "..C.", "- - Ba -a")
	shows(t, times, "c.cC", "- - - Ba")
	shows(t, times, "Cc.c", "Ba - - -")
	shows(t, flows.Times{Again: 1, Most: 1, Wait: 1}, "C...c.C", "Ba Ba Ba Ba - - Ba")
}

// TestOutage sends Outage in all ticks, also in those of a congestion, which are counted during it.
func TestOutage(t *testing.T) {
	times := flows.Times{Again: 3, Most: 9, Wait: 9}
	shows(t, times, "O..o.", "Ol Ol Ol - -")
	shows(t, times, "OOo", "Ol Ol -")
	shows(t, times, "oO", "- Ol")
	shows(t, times, "C.O.o.", "Ba -a Oal Oal -a Ba")
	shows(t, times, "C.O..oc", "Ba -a Oal Oal Oal Ba -")
	shows(t, times, "OC..o.", "Ol Oal Oal Oal -a Ba")
	shows(t, times, "OCco", "Ol Oal Ol -")
}

// P10.3

// TestBusy lets the other end be busy. Only an acknowledgement ends it.
func TestBusy(t *testing.T) {
	shows(t, example, "5...", "- - - -f")
	shows(t, example, ".5..", "- - - -")
	shows(t, example, "5.5.5.", "- - - - - -f")
	shows(t, example, "5.-.-.", "- - - - - -f")
	shows(t, example, "5.4.4.", "- - -l -l -l -lf")
	shows(t, example, "O5.5..", "Ol Ol Ol Ol Ol -lf")
	shows(t, example, "5.w.n.", "- - - - - -f")
	shows(t, example, "5..N...", "- - - - - - -")
	shows(t, example, "5..N5...", "- - - - - - - -f")
	shows(t, example, "5..W5...", "- - - - - - - -f")
	shows(t, example, "5..W..5..", "- - - - - - - - -")
	shows(t, example, "N5..", "- - - -")
	shows(t, example, "N5...", "- - - - -f")
	shows(t, example, "C5...", "Ba Ba -a Ba -af")
}

// TestWaiting lets loads wait for an acknowledgement.
func TestWaiting(t *testing.T) {
	shows(t, example, "w.....", "- - - - - -f")
	shows(t, example, "W.....", "- - - - - -f")
	shows(t, example, "w.w.w.w.w.", "- - - - - - - - - -f")
	shows(t, example, "w....n....", "- - - - - - - - - -")
	shows(t, example, "w....N....", "- - - - - - - - - -")
	shows(t, example, "w....nw....", "- - - - - - - - - - -")
	shows(t, example, "w....nw.....", "- - - - - - - - - - - -f")
	shows(t, example, "w....W....W", "- - - - - - - - - - -")
	shows(t, example, "w....W.....", "- - - - - - - - - - -f")
	shows(t, example, "w....-.", "- - - - - - -f")
	shows(t, example, "w....C.", "- - - - - Ba -af")
	shows(t, example, "n......", "- - - - - - -")
}

// TestWaitingAndBusy gives waiting loads all their ticks with each Busy.
func TestWaitingAndBusy(t *testing.T) {
	times := flows.Times{Again: 2, Most: 9, Wait: 3}
	shows(t, times, "w..5..", "- - - - - -")
	shows(t, times, "w..5..5..5..", "- - - - - - - - - - - -")
	shows(t, times, "w..5...", "- - - - - - -f")
	shows(t, times, "5..w...", "- - - - - - -f")
	shows(t, times, "w..5..5..5..5..", "- - - - - - - - - - - - - - -")
	shows(t, times, "w..5..5..5..5..5.", "- - - - - - - - - - - - - - - - -f")
	shows(t, times, "w.n5....", "- - - - - - - -")
	shows(t, times, "5..W..5..N", "- - - - - - - - - -")
}

// TestWaitingAndOutage does not count the ticks of an outage of one of the ends.
func TestWaitingAndOutage(t *testing.T) {
	times := flows.Times{Again: 2, Most: 2, Wait: 3}
	shows(t, times, "w.O...o.", "- - Ol Ol Ol Ol - -")
	shows(t, times, "w.O...o..", "- - Ol Ol Ol Ol - - -f")
	shows(t, times, "w.4...-.", "- - -l -l -l -l - -")
	shows(t, times, "w.4...-..", "- - -l -l -l -l - - -f")
	shows(t, times, "w.O.4.o.-..", "- - Ol Ol Ol Ol -l -l - - -f")
	shows(t, times, "w.4.O.-.o..", "- - -l -l Ol Ol Ol Ol - - -f")
	shows(t, times, "w.44.-..", "- - -l -l -l - - -f")
	shows(t, times, "O....w...o..", "Ol Ol Ol Ol Ol Ol Ol Ol Ol - - -")
	shows(t, times, "w..45.-.", "- - - -l -l -l - -f")
}

// TestOtherOutage ends the outage of the other end only by a unit without a status.
func TestOtherOutage(t *testing.T) {
	shows(t, example, "4.5.W.N-", "-l -l -l -l -l -l -l -")
	shows(t, example, "4C4c-", "-l Bal Bal -l -")
	shows(t, example, "4Oo-", "-l Ol -l -")
	shows(t, example, "-4-4", "- -l - -l")
}

// TestOtherStatuses lets a flow control fail by the statuses of the alignment.
func TestOtherStatuses(t *testing.T) {
	for _, status := range []string{"0", "1", "2", "3"} {
		shows(t, example, status, "-f")
		shows(t, example, "C"+status, "Ba -af")
		shows(t, example, "O"+status, "Ol -lf")
		shows(t, example, "CO"+status, "Ba Oal -alf")
		shows(t, example, "4"+status, "-l -lf")
		shows(t, example, "w5"+status, "- - -f")
	}
}

// TestStatuses lets flow controls hear every number, with and without its meaning.
func TestStatuses(t *testing.T) {
	for _, text := range []string{"", "C", "O", "4", "5", "w", "CO45w.", "5..", "w....", "N-"} {
		x := behind(t, example, text)
		before := look(x)
		for status := range 256 {
			if status > 5 {
				if e := x.Hear(uint8(status), true); e != api.ErrArg || look(x) != before {
					t.Errorf("%s: Hear(%d): %d, %+v", text, status, e, look(x))
				}
			} else if e := behind(t, example, text).Hear(uint8(status), true); e != api.OK {
				t.Errorf("%s: Hear(%d): %d", text, status, e)
			}
			y := behind(t, example, text)
			if e := y.Hear(uint8(status), false); e != api.OK || look(y) != look(behind(t, example, text+"-")) {
				t.Errorf("%s: Hear(%d) of a unit without a status: %d, %+v", text, status, e, look(y))
			}
		}
	}
}

// TestInvalidStatus lets a status that is not valid change nothing that shows later.
func TestInvalidStatus(t *testing.T) {
	x := behind(t, example, "4w")
	x.Hear(6, true)
	if _, loads := x.Held(); !loads {
		t.Error("the outage of the other end has ended")
	}
	do(x, '-')
	for range 4 {
		do(x, '.')
		x.Hear(255, true)
	}
	if x.Failed() {
		t.Error("failed too early")
	}
	if e := x.Tick(); e != api.OK || !x.Failed() {
		t.Errorf("not failed: %d", e)
	}
}

// failures returns acts that let a flow control with the times of the example fail.
func failures() []string {
	return []string{"0", "1", "2", "3", "5...", "w.....", "C0", "O1", "CO2", "43", "w5...", "CO5...", "C5w..N5...", "COoc3"}
}

// TestFailure lets nothing happen behind a failure.
func TestFailure(t *testing.T) {
	for _, text := range failures() {
		x := behind(t, example, text)
		before := look(x)
		if !before.failed || before.sends || before.status != 0 {
			t.Errorf("%s: %+v", text, before)
		}
		for range 3 {
			for i := range len(acts) {
				if e := do(x, acts[i]); e != api.ErrState || look(x) != before {
					t.Errorf("%s: %c returns %d, %+v", text, acts[i], e, look(x))
				}
			}
			for status := range 256 {
				if x.Hear(uint8(status), true) != api.ErrState || x.Hear(uint8(status), false) != api.ErrState || look(x) != before {
					t.Errorf("%s: Hear(%d): %+v", text, status, look(x))
				}
			}
		}
	}
}

// P10.4

// TestTelling tells the same when it is asked again.
func TestTelling(t *testing.T) {
	for text, want := range map[string]view{
		"":     {},
		"C":    {status: units.Busy, sends: true, acknowledgements: true},
		"C.":   {acknowledgements: true},
		"C..":  {status: units.Busy, sends: true, acknowledgements: true},
		"O":    {status: units.Outage, sends: true, loads: true},
		"OC":   {status: units.Outage, sends: true, acknowledgements: true, loads: true},
		"4":    {loads: true},
		"4C.":  {acknowledgements: true, loads: true},
		"5":    {},
		"w":    {},
		"5w":   {},
		"CO40": {acknowledgements: true, loads: true, failed: true},
		"0":    {failed: true},
	} {
		x := behind(t, example, text)
		for range 5 {
			if v := look(x); v != want {
				t.Errorf("%s: %+v, not %+v", text, v, want)
			}
		}
	}
}

// P1, R5

func TestNoFlow(t *testing.T) {
	for what, x := range map[string]*flows.Flow{"nil": nil, "zero": new(flows.Flow)} {
		for range 3 {
			for i := range len(acts) {
				if e := do(x, acts[i]); e != api.ErrNil {
					t.Errorf("%s: %c returns %d", what, acts[i], e)
				}
			}
			for status := range 256 {
				if x.Hear(uint8(status), true) != api.ErrNil || x.Hear(uint8(status), false) != api.ErrNil {
					t.Errorf("%s: Hear(%d)", what, status)
				}
			}
			if v := look(x); v != (view{}) {
				t.Errorf("%s: %+v", what, v)
			}
		}
	}
}

func TestObject(t *testing.T) {
	object := reflect.TypeFor[flows.Flow]()
	if object.Kind() != reflect.Struct {
		t.Fatalf("a Flow is a %v", object.Kind())
	}
	for i := range object.NumField() {
		if f := object.Field(i); f.IsExported() {
			t.Errorf("a Flow has the field %s", f.Name)
		}
	}
}
