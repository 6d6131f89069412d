package links_test

import (
	"math"
	"reflect"
	"strconv"
	"strings"
	"testing"

	"pointcode/alignments"
	"pointcode/api"
	"pointcode/flows"
	"pointcode/lines"
	"pointcode/links"
)

const (
	maxTicks = 1048576
	maxDelay = 64
)

// edges are numbers around the limits of options.
var edges = []int{math.MinInt, math.MinInt32, -maxTicks, -1, 0, 1, 2, 63, 64, 65, 126, 127, 128, 255, 256, 65535, 65536, maxTicks - 1, maxTicks, maxTicks + 1, 1 << 31, 1 << 32, 1<<32 + 1, math.MaxInt}

// shows checks the states of both ends behind each tick of a text, which performs acts without an error at a new link. Those that are the same are written once, behind their number.
func shows(t *testing.T, o links.Options, text, want string) *links.Link {
	t.Helper()
	x := made(t, o)
	var got []string
	for i := range len(text) {
		if e, _ := do(x, text[i], i); e != api.OK {
			t.Errorf("%s: %c returns %d", text, text[i], e)
		}
		if text[i] == '.' {
			got = append(got, letter(x.State(0))+letter(x.State(1)))
		}
	}
	if all := runs(got); all != want {
		t.Errorf("%s: %s, not %s", text, all, want)
	}
	agree(t, o, text)
	return x
}

// runs writes words, those that are the same once behind their number.
func runs(words []string) string {
	var out []string
	for i := 0; i < len(words); {
		n := 1
		for i+n < len(words) && words[i+n] == words[i] {
			n++
		}
		count := ""
		if n > 1 {
			count = strconv.Itoa(n)
		}
		out = append(out, count+words[i])
		i += n
	}
	return strings.Join(out, " ")
}

// drop returns the disturbances by which the bursts with some numbers are lost.
func drop(numbers ...int) []lines.Noise {
	var out []lines.Noise
	for _, n := range numbers {
		out = append(out, lines.Noise{At: n, Kind: lines.Drop})
	}
	return out
}

// flip returns the disturbances by which the bursts with some numbers are wrong units: a bit of the length is inverted.
func flip(numbers ...int) []lines.Noise {
	var out []lines.Noise
	for _, n := range numbers {
		out = append(out, lines.Noise{At: n, Kind: lines.Flip, Bit: 29})
	}
	return out
}

// from returns n numbers from a first one on.
func from(first, n int) []int {
	var out []int
	for i := range n {
		out = append(out, first+i)
	}
	return out
}

// noisy returns the usual options for the delay 1 with disturbances of the line from an end.
func noisy(end int, l []lines.Noise) links.Options {
	o := links.Usual(1)
	o.Noise[end] = l
	return o
}

// isServed is a text behind which both ends of a link with the usual options for the delay 1 are in the state Service.
var isServed = "aA" + ticks(25)

// P11.1

func TestConstants(t *testing.T) {
	for i, s := range []links.State{links.Off, links.Aligning, links.Ready, links.Service, links.Out} {
		if s != links.State(i) {
			t.Errorf("the state %d is %d", i, s)
		}
	}
}

func TestUsual(t *testing.T) {
	want := links.Options{
		Loads: 40, Octets: 4000, Delay: 3,
		Align: alignments.Times{Seek: 78, Hold: 42, Normal: 26, Emergency: 9, Few: 4, Fewer: 1, Most: 5},
		Flow:  flows.Times{Again: 2, Most: 72, Wait: 32},
		Limit: 64, Every: 256, Patience: 72,
	}
	if got := links.Usual(3); !reflect.DeepEqual(got, want) {
		t.Errorf("%+v", got)
	}
	want = links.Options{
		Loads: 40, Octets: 4000,
		Align: alignments.Times{Seek: 60, Hold: 30, Normal: 20, Emergency: 6, Few: 4, Fewer: 1, Most: 5},
		Flow:  flows.Times{Again: 2, Most: 60, Wait: 20},
		Limit: 64, Every: 256, Patience: 60,
	}
	for _, d := range []int{0, -1, -maxDelay, maxTicks + 1, 1 << 31, 1 << 32, 1<<32 + 1, math.MinInt, math.MinInt32, math.MaxInt} {
		if got := links.Usual(d); !reflect.DeepEqual(got, want) {
			t.Errorf("%d: %+v", d, got)
		}
	}
}

// TestUsualDelays compares the usual options with the definition, also those with which there is no link.
func TestUsualDelays(t *testing.T) {
	for _, d := range []int{0, 1, 2, 3, 63, 64, 65, 255, 256, 65535, 65536, maxTicks - 1, maxTicks} {
		o := links.Usual(d)
		a, f := o.Align, o.Flow
		got := []int{o.Loads, o.Octets, o.Delay, a.Seek, a.Hold, a.Normal, a.Emergency, a.Few, a.Fewer, a.Most, f.Again, f.Most, f.Wait, o.Limit, o.Every, o.Patience}
		want := []int{40, 4000, d, 6*d + 60, 4*d + 30, 2*d + 20, d + 6, 4, 1, 5, 2, 4*d + 60, 4*d + 20, 64, 256, 4*d + 60}
		if !reflect.DeepEqual(got, want) || o.Cyclic || len(o.Noise[0])+len(o.Noise[1]) != 0 {
			t.Errorf("%d: %+v", d, o)
		}
		x, e := links.New(o)
		if is := 1 <= d && d <= maxDelay; is && (x == nil || e != api.OK) || !is && (x != nil || e != api.ErrArg) {
			t.Errorf("%d: %v, %d", d, x, e)
		}
	}
}

func TestNew(t *testing.T) {
	for d := 1; d <= maxDelay; d++ {
		for _, cyclic := range []bool{false, true} {
			o := links.Usual(d)
			o.Cyclic = cyclic
			x := made(t, o)
			isNew(t, x)
			for range 100 {
				perform(t, x, ".")
			}
			if x.Now() != 100 || x.State(0) != links.Off || x.State(1) != links.Off || x.Wrong(0) != 0 || x.Wrong(1) != 0 {
				t.Errorf("%d: %d, %d and %d", d, x.Now(), x.State(0), x.State(1))
			}
		}
	}
}

// isNew checks what a new link tells.
func isNew(t *testing.T, x *links.Link) {
	t.Helper()
	if x.Now() != 0 {
		t.Errorf("Now is %d", x.Now())
	}
	for k := range 2 {
		isOff(t, x, k)
	}
}

// isOff checks what a link tells of an end that is Off.
func isOff(t *testing.T, x *links.Link, end int) {
	t.Helper()
	if x.State(end) != links.Off || x.Last(end) != 0 || x.Wrong(end) != 0 || len(x.Take(end)) != 0 {
		t.Errorf("end %d: %d, %d, %d", end, x.State(end), x.Last(end), x.Wrong(end))
	}
	for n := range 256 {
		if l, e := x.Retrieve(end, uint8(n)); e != api.ErrState || len(l) != 0 {
			t.Errorf("end %d: Retrieve(%d): %v, %d", end, n, l, e)
		}
	}
}

// TestOptions gives each number among the options all edges.
func TestOptions(t *testing.T) {
	var o links.Options
	type limit struct {
		number   *int
		greatest int
		cyclic   bool // whether it matters only then
	}
	all := []limit{
		{&o.Loads, 127, true}, {&o.Octets, 65535, true}, {&o.Delay, maxDelay, false},
		{&o.Limit, maxTicks, false}, {&o.Every, maxTicks, false}, {&o.Patience, maxTicks, false},
	}
	for _, number := range []*int{
		&o.Align.Seek, &o.Align.Hold, &o.Align.Normal, &o.Align.Emergency, &o.Align.Few, &o.Align.Fewer, &o.Align.Most,
		&o.Flow.Again, &o.Flow.Most, &o.Flow.Wait,
	} {
		all = append(all, limit{number, maxTicks, false})
	}
	for i, l := range all {
		for _, n := range edges {
			for _, cyclic := range []bool{false, true} {
				o = links.Usual(2)
				o.Cyclic = cyclic
				*l.number = n
				x, e := links.New(o)
				valid := 1 <= n && n <= l.greatest || l.cyclic && !cyclic
				if valid && (x == nil || e != api.OK) || !valid && (x != nil || e != api.ErrArg) {
					t.Errorf("option %d is %d: %v, %d", i, n, x, e)
				}
			}
		}
	}
}

// TestErrors combines options with errors. The first one counts.
func TestErrors(t *testing.T) {
	tooMany := make([]lines.Noise, lines.MaxNoise+1)
	bad := []lines.Noise{{Kind: 3}}
	for i, c := range []struct {
		first, second []lines.Noise
		delay         int
		want          api.Errno
	}{
		{nil, nil, 1, api.OK},
		{tooMany[1:], tooMany[1:], 1, api.OK},
		{tooMany, nil, 1, api.ErrLimit},
		{nil, tooMany, 1, api.ErrLimit},
		{tooMany, tooMany, 1, api.ErrLimit},
		{bad, nil, 1, api.ErrArg},
		{nil, bad, 1, api.ErrArg},
		{nil, []lines.Noise{{At: -1}}, 1, api.ErrArg},
		{nil, []lines.Noise{{Bit: -1}}, 1, api.ErrArg},
		{tooMany, bad, 1, api.ErrLimit},
		{bad, tooMany, 1, api.ErrArg},
		{tooMany, nil, 0, api.ErrLimit},
		{nil, tooMany, 0, api.ErrArg},
		{nil, nil, 0, api.ErrArg},
	} {
		o := links.Usual(1)
		o.Noise, o.Delay = [2][]lines.Noise{c.first, c.second}, c.delay
		x, e := links.New(o)
		if e != c.want || (x != nil) != (e == api.OK) {
			t.Errorf("%d: %v, %d", i, x, e)
		}
		// Errors that come later do not show, unless there is none.
		o.Cyclic, o.Loads = true, 0
		o.Align, o.Flow, o.Limit, o.Patience = alignments.Times{}, flows.Times{}, 0, 0
		want := c.want
		if want == api.OK {
			want = api.ErrArg
		}
		if x, e := links.New(o); x != nil || e != want {
			t.Errorf("%d with more errors: %v, %d", i, x, e)
		}
	}
	if x, e := links.New(links.Options{}); x != nil || e != api.ErrArg {
		t.Errorf("no options: %v, %d", x, e)
	}
}

// TestLinksAlone performs acts at one link. Others, of the same options, do not change.
func TestLinksAlone(t *testing.T) {
	o := links.Usual(1)
	x, other := made(t, o), made(t, o)
	perform(t, x, isServed+"lL..tTsS.")
	isNew(t, other)
	isNew(t, made(t, o))
}

// P11.2

func TestStart(t *testing.T) {
	x := shows(t, links.Usual(1), "aA"+ticks(26), "23AA RR 2SS")
	if x.Last(0) != 127 || x.Last(1) != 127 || x.Now() != 26 {
		t.Errorf("%d and %d in tick %d", x.Last(0), x.Last(1), x.Now())
	}
	shows(t, links.Usual(3), "aA"+ticks(37), "31AA 3RR 3SS")
	// an end alone
	shows(t, links.Usual(1), "a"+ticks(68), "65A- 3X-")
	shows(t, links.Usual(1), "A"+ticks(68), "65-A 3-X")
	shows(t, links.Usual(2), "e"+ticks(74), "71A- 3X-")
	// end 1 is Aligned in tick 11, end 0 in tick 12, both Proving in tick 13
	shows(t, links.Usual(1), "a"+ticks(10)+"A"+ticks(26), "10A- 23AA RR 2SS")
}

// TestEmergency begins the alignment for an emergency at one of the ends, or at both.
func TestEmergency(t *testing.T) {
	for _, text := range []string{"eA", "aE", "eE"} {
		shows(t, links.Usual(1), text+ticks(11), "8AA RR 2SS")
		shows(t, links.Usual(4), text+ticks(24), "17AA 4RR 3SS")
	}
	// with fewer wrong units
	o := noisy(0, flip(4))
	o.Align.Most = 1
	shows(t, o, "eA"+ticks(8), "5AA AX 2XX")
	shows(t, o, "aA"+ticks(26), "23AA RR 2SS")
}

// TestStartStates begins the alignment in all states.
func TestStartStates(t *testing.T) {
	for text, want := range map[string]api.Errno{
		"":                                  api.OK,
		"A.":                                api.OK,
		"a":                                 api.ErrState,
		"e":                                 api.ErrState,
		"aA" + ticks(10):                    api.ErrState,
		"aA" + ticks(24):                    api.ErrState,
		isServed:                            api.ErrState,
		isServed + "s":                      api.OK,
		isServed + "S..":                    api.OK,
		"a" + ticks(66):                     api.OK,
		"as":                                api.OK,
		"asa":                               api.ErrState,
		"aA" + ticks(24) + "sS..aA":         api.ErrState,
		"aA" + ticks(24) + "sS..aA......sS": api.OK,
	} {
		for _, emergency := range []bool{false, true} {
			x := behind(t, links.Usual(1), text)
			before := look(x)
			e := x.Start(0, emergency)
			if e != want || x.State(0) == links.Out || e == api.OK && x.State(0) != links.Aligning {
				t.Errorf("%s: %d, the state is %d", text, e, x.State(0))
			}
			if e != api.OK && look(x) != before {
				t.Errorf("%s: %#v, not %#v", text, look(x), before)
			}
		}
	}
	// an error does not begin the alignment again
	x := behind(t, links.Usual(1), "a"+ticks(65))
	x.Start(0, true)
	perform(t, x, ".")
	if x.State(0) != links.Out {
		t.Errorf("the state is %d", x.State(0))
	}
}

// TestStartAgain replaces everything but the loads that wait to be taken, and the number of wrong units.
func TestStartAgain(t *testing.T) {
	x := behind(t, noisy(0, flip(5)), isServed+"lLlL...")
	if x.Last(1) != 1 || x.Wrong(1) != 1 {
		t.Errorf("%d, %d", x.Last(1), x.Wrong(1))
	}
	perform(t, x, "LS.A")
	if l, e := x.Retrieve(1, 127); e != api.OK || len(l) != 0 || x.Last(1) != 127 {
		t.Errorf("%v, %d, %d", l, e, x.Last(1))
	}
	if l, e := x.Retrieve(1, 1); e != api.ErrArg || len(l) != 0 {
		t.Errorf("%v, %d", l, e)
	}
	perform(t, x, "L.")
	if l, e := x.Retrieve(1, 127); e != api.OK || len(l) != 1 {
		t.Errorf("%v, %d", l, e)
	}
	if l := x.Take(1); len(l) != 2 || x.Wrong(1) != 1 {
		t.Errorf("%v, %d", l, x.Wrong(1))
	}
	// what end 0 has accepted stays until it is started again, too
	if x.State(0) != links.Out || x.Last(0) != 1 {
		t.Errorf("%d, %d", x.State(0), x.Last(0))
	}
	perform(t, x, "a"+ticks(30))
	if l := x.Take(0); len(l) != 3 || x.Last(0) != 0 || x.State(0) != links.Service {
		t.Errorf("%v, %d, %d", l, x.Last(0), x.State(0))
	}
}

// TestNewAlignment begins the alignment again with all ticks and provings.
func TestNewAlignment(t *testing.T) {
	shows(t, links.Usual(1), "a"+ticks(60)+"sa"+ticks(67), "125A- 2X-")
	shows(t, links.Usual(1), "e.sa.A"+ticks(30), "2A- 23AA RR 6SS")
	shows(t, links.Usual(1), "a.se.A"+ticks(30), "2A- 8AA RR 21SS")
	// three wrong units in each of two provings
	o := noisy(1, flip(4, 5, 6, 10, 11, 12))
	o.Align.Most = 1
	shows(t, o, "aA"+ticks(8)+"sSaA"+ticks(28), "30AA RR 5SS")
}

// TestNewScanner loses the flag behind a unit. What a scanner has kept of it would be another wrong unit.
func TestNewScanner(t *testing.T) {
	o := noisy(0, []lines.Noise{{At: 2, Kind: lines.Flip, Bit: -1}})
	o.Noise[0][0].Bit = burstBits(t, o, "a...", 0) - 5
	for text, want := range map[string]int{"aA....": 0, "aA.....": 1, "aA....S.A...": 0, "aA....SA.....": 0} {
		x := behind(t, o, text)
		if x.Wrong(1) != want {
			t.Errorf("%s: %d", text, x.Wrong(1))
		}
	}
}

// burstBits returns how many bits an end has sent in the last tick of a text. The disturbances do not matter.
func burstBits(t *testing.T, o links.Options, text string, end int) int {
	t.Helper()
	o.Noise = [2][]lines.Noise{}
	m := modelOf(o)
	perform(t, m, text)
	return len(m.sent[end][len(m.sent[end])-1].bits)
}

// TestNewFlow ends the congestion and the outage, and what was known about the other end.
func TestNewFlow(t *testing.T) {
	for _, acts := range []string{"c", "o", "C", "O", "co", "CO", "cC", "oO"} {
		x := behind(t, links.Usual(1), isServed+"lL"+acts+"....sS...aA"+ticks(25))
		if x.State(0) != links.Service || x.State(1) != links.Service {
			t.Errorf("%s: %d and %d", acts, x.State(0), x.State(1))
		}
		perform(t, x, "tTlL"+ticks(80))
		if x.State(0) != links.Service || x.State(1) != links.Service {
			t.Errorf("%s: %d and %d", acts, x.State(0), x.State(1))
		}
		if a, b := x.Take(0), x.Take(1); len(a) != 1 || len(b) != 1 {
			t.Errorf("%s: %v and %v", acts, a, b)
		}
	}
}

// TestNewMonitor lets an end forget the wrong units in service of an earlier start.
func TestNewMonitor(t *testing.T) {
	// the bursts 25 and 26 are sent in the ticks 26 and 27; those from 58 on in service again
	o := noisy(0, flip(25, 26, 60, 61))
	o.Limit = 3
	text := isServed + "....sS...aA"
	x := shows(t, o, text+ticks(33), "23AA RR 5SS 3XX 23AA RR 9SS")
	if x.Wrong(1) != 4 {
		t.Errorf("%d wrong units", x.Wrong(1))
	}
	o.Limit = 2
	x = shows(t, o, isServed+"....", "23AA RR 3SS SX XX")
	if x.Wrong(1) != 2 {
		t.Errorf("%d wrong units", x.Wrong(1))
	}
}

// TestNewPatience gives an end all ticks in the state Ready again.
func TestNewPatience(t *testing.T) {
	o := noisy(1, drop(append(from(23, 2), from(49, 2)...)...))
	o.Patience = 4
	shows(t, o, "aA"+ticks(26)+"sSaA"+ticks(29), "23AA RR 2RS 23AA RR 2RS 3SS")
}

// TestStop takes an end out of service in all states.
func TestStop(t *testing.T) {
	for text, want := range map[string]api.Errno{
		"":                           api.ErrState,
		"..A..S..":                   api.ErrState,
		"a":                          api.OK,
		"aA" + ticks(10):             api.OK,
		"aA" + ticks(24):             api.OK,
		isServed:                     api.OK,
		isServed + "s":               api.OK,
		isServed + "S..":             api.OK,
		isServed + "lL...sS......aA": api.OK,
	} {
		x := behind(t, links.Usual(1), text)
		before := look(x)
		e := x.Stop(0)
		if e != want || e == api.OK && x.State(0) != links.Out || e != api.OK && x.State(0) != links.Off {
			t.Errorf("%s: %d, the state is %d", text, e, x.State(0))
		}
		before.states[0] = x.State(0)
		if look(x) != before {
			t.Errorf("%s: %#v, not %#v", text, look(x), before)
		}
		perform(t, x, ticks(100))
		if x.State(0) != before.states[0] {
			t.Errorf("%s: the state becomes %d", text, x.State(0))
		}
	}
}

// TestStopped shows what a stopped end does to the other one.
func TestStopped(t *testing.T) {
	shows(t, links.Usual(1), isServed+"s..", "23AA RR SS XS XX")
	shows(t, links.Usual(3), "aA"+ticks(35)+"S.....", "31AA 3RR SS 3SX 2XX")
	// Ready in tick 24, where it hears Normal; out by Stopped, and by Out
	o := noisy(0, flip(4, 6))
	o.Align.Few = 2
	shows(t, o, "aA"+ticks(30), "23AA 5RA RR SS")
	shows(t, o, "aA"+ticks(25)+"S...", "23AA 2RA RX 2XX")
	shows(t, o, "aA"+ticks(25)+"SA...", "23AA 3RA 2XA")
	// an end that seeks does not mind, one that is aligned does
	shows(t, links.Usual(1), "AS.a"+ticks(67), "-X 65AX 2XX")
	shows(t, links.Usual(1), "aA.S...", "AA AX 2XX")
	shows(t, links.Usual(1), "aA.....S...", "5AA AX 2XX")
}

// P11.3

// TestSend gives loads in all states.
func TestSend(t *testing.T) {
	for text, want := range map[string]api.Errno{
		"":               api.ErrState,
		"A...":           api.ErrState,
		"a":              api.OK,
		"aA" + ticks(24): api.OK,
		isServed:         api.OK,
		isServed + "c":   api.OK,
		isServed + "o..": api.OK,
		isServed + "O..": api.OK,
		isServed + "s":   api.ErrState,
		isServed + "S..": api.ErrState,
		"a" + ticks(66):  api.ErrState,
	} {
		for n, fault := range map[int]api.Errno{0: api.ErrWidth, 1: api.ErrWidth, 2: api.OK, 3: api.OK, 272: api.OK, 273: api.OK, 274: api.ErrWidth, 1000: api.ErrWidth} {
			x := behind(t, links.Usual(1), text)
			if want != api.OK {
				fault = want
			}
			before := look(x)
			if e := x.Send(0, make([]byte, n)); e != fault {
				t.Errorf("%s: %d octets: %d", text, n, e)
			}
			if l, _ := x.Retrieve(0, 127); fault == api.OK && (len(l) != 1 || len(l[0]) != n) || fault != api.OK && look(x) != before {
				t.Errorf("%s: %d octets: %v", text, n, l)
			}
		}
	}
}

// TestFull gives loads until there is no room.
func TestFull(t *testing.T) {
	for _, cyclic := range []bool{false, true} {
		o := links.Usual(1)
		o.Cyclic = cyclic
		for _, text := range []string{"aA", "aA" + ticks(24), isServed, isServed + "o."} {
			x := behind(t, o, text)
			for n := range 64 {
				if e := x.Send(0, load(n)); e != api.OK {
					t.Errorf("%s: load %d: %d", text, n, e)
				}
			}
			before := look(x)
			if e := x.Send(0, load(0)); e != api.ErrFull || look(x) != before {
				t.Errorf("%s: %d", text, e)
			}
			if e := x.Send(0, load(0)[:1]); e != api.ErrWidth {
				t.Errorf("%s: %d", text, e)
			}
			if e := x.Send(1, load(0)); e != api.OK {
				t.Errorf("%s: the other end: %d", text, e)
			}
		}
	}
}

// TestFlowStates changes the flow control in all states.
func TestFlowStates(t *testing.T) {
	for text, want := range map[string]api.Errno{
		"":               api.ErrState,
		"a":              api.ErrState,
		"aA" + ticks(24): api.ErrState,
		isServed:         api.OK,
		isServed + "c":   api.OK,
		isServed + "o":   api.OK,
		isServed + "s":   api.ErrState,
		isServed + "S..": api.ErrState,
	} {
		for _, on := range []bool{false, true} {
			x := behind(t, links.Usual(1), text)
			before := look(x)
			if a, b := x.Congest(0, on), x.Outage(0, on); a != want || b != want || look(x) != before {
				t.Errorf("%s: %d and %d", text, a, b)
			}
		}
	}
}

// TestCongest withholds acknowledgements and loads of an end that is congested.
func TestCongest(t *testing.T) {
	x := behind(t, links.Usual(1), isServed+"lC...TL"+ticks(20))
	rest(t, x, 0, 127, 1)
	if l := x.Take(0); len(l) != 0 || x.Last(1) != 0 {
		t.Errorf("%v, %d", l, x.Last(1))
	}
	perform(t, x, "D..")
	rest(t, x, 0, 0, 0)
	if l, e := x.Retrieve(0, 127); e != api.ErrArg {
		t.Errorf("%v, %d", l, e)
	}
	if l := x.Take(0); len(l) != 1 || x.State(0) != links.Service || x.State(1) != links.Service {
		t.Errorf("%v, %d and %d", l, x.State(0), x.State(1))
	}
	// the bursts of end 1 are those of the ticks 1 to 25, then Busy in the ticks 27, 29, and so on
	o := noisy(1, drop(25))
	o.Flow.Most = 9
	shows(t, o, isServed+"C"+ticks(14), "23AA RR 13SS XS XX")
	o = links.Usual(1)
	o.Flow.Most = 9
	shows(t, o, isServed+"C"+ticks(12), "23AA RR 11SS XS XX")
	o.Flow.Again = 4
	shows(t, o, isServed+"C"+ticks(14), "23AA RR 13SS XS XX")
	// a congestion that ends in time, without and with an acknowledgement
	o.Flow.Again = 2
	shows(t, o, isServed+"C......D"+ticks(8), "23AA RR 11SS XS 3XX")
	shows(t, o, isServed+"lC......D"+ticks(8), "23AA RR 15SS")
}

// rest checks how many loads an end retrieves for a number.
func rest(t *testing.T, x *links.Link, end int, last uint8, want int) {
	t.Helper()
	if l, e := x.Retrieve(end, last); e != api.OK || len(l) != want {
		t.Errorf("Retrieve(%d, %d): %v, %d", end, last, l, e)
	}
}

// TestOutage withholds loads of both ends.
func TestOutage(t *testing.T) {
	x := shows(t, links.Usual(1), isServed+"O..lL"+ticks(200), "23AA RR 203SS")
	if a, b := x.Take(0), x.Take(1); len(a)+len(b) != 0 || x.Last(0) != 127 || x.Last(1) != 127 {
		t.Errorf("%v and %v", a, b)
	}
	// end 1 sends its load in the next tick, and end 0 its own one when this has come
	perform(t, x, "P..")
	if a, b := x.Take(0), x.Take(1); len(a) != 1 || len(b) != 0 {
		t.Errorf("%v and %v", a, b)
	}
	perform(t, x, ".")
	if a, b := x.Take(0), x.Take(1); len(a) != 0 || len(b) != 1 {
		t.Errorf("%v and %v", a, b)
	}
	// a load that waits for its acknowledgement has as many ticks as before
	o := links.Usual(1)
	o.Flow.Wait = 3
	o.Noise[1] = drop(from(30, 20)...)
	shows(t, o, isServed+"....l"+ticks(8), "23AA RR 8SS XS 4XX")
	shows(t, o, isServed+"....l.o....p"+ticks(6), "23AA RR 12SS XS 3XX")
}

// TestBoth begins and ends congestion and outage together. Outage is sent then.
func TestBoth(t *testing.T) {
	o := links.Usual(1)
	o.Flow.Most = 5
	shows(t, o, isServed+"OC"+ticks(50), "23AA RR 51SS")
	shows(t, o, isServed+"OC....PD"+ticks(50), "23AA RR 55SS")
	shows(t, o, isServed+"OC....P"+ticks(20), "23AA RR 11SS XS 13XX")
}
