package cyclics_test

import (
	"bytes"
	"slices"
	"strings"
	"testing"

	"pointcode/api"
	"pointcode/cyclics"
	"pointcode/units"
)

const (
	maxQueue  = 64    // loads
	maxLoads  = 127   // the greatest limit for loads
	maxOctets = 65535 // the greatest limit for octets
	maxLoad   = 273   // octets
)

// random is a generator of numbers that is the same in every run.
type random uint32

// below returns a number from 0 to n-1.
func (r *random) below(n int) int {
	*r = *r*1664525 + 1013904223
	return int(*r>>8) % n
}

// load returns a load of 2 to 5 octets.
func (r *random) load() []byte {
	out := make([]byte, 2+r.below(4))
	for i := range out {
		out[i] = byte(r.below(256))
	}
	return out
}

// load returns the load with a number, two octets; all of the first 65536 differ.
func load(k int) []byte { return []byte{byte(k), byte(k >> 8)} }

// loads returns the loads with the numbers from a to b-1.
func loads(a, b int) [][]byte {
	var out [][]byte
	for k := a; k < b; k++ {
		out = append(out, load(k))
	}
	return out
}

// fill, message and state return units.
func fill(back, fore uint8) units.Unit {
	return units.Unit{Back: back, BackBit: true, Fore: fore, ForeBit: true}
}

func message(back, fore uint8, l []byte) units.Unit {
	return units.Unit{Back: back, BackBit: true, Fore: fore, ForeBit: true, Kind: units.Load, Load: l}
}

func state(status, back, fore uint8) units.Unit {
	return units.Unit{Back: back, Fore: fore, Kind: units.State, Status: status}
}

// equal reports whether two lists of loads are equal.
func equal(a, b [][]byte) bool { return slices.EqualFunc(a, b, bytes.Equal) }

// own reports whether the capacities of a list of loads are its lengths.
func own(l [][]byte) bool {
	return cap(l) == len(l) && !slices.ContainsFunc(l, func(b []byte) bool { return cap(b) != len(b) })
}

// none contains the ends that are no ends.
func none() map[string]*cyclics.End {
	return map[string]*cyclics.End{"nil": nil, "zero": new(cyclics.End)}
}

// made returns a new end.
func made(t *testing.T, loads, octets int) *cyclics.End {
	t.Helper()
	x, e := cyclics.New(loads, octets)
	if e != api.OK || x == nil {
		t.Fatalf("New(%d, %d): %v, %d", loads, octets, x, e)
	}
	return x
}

// given returns a new end whose queue has the loads below n.
func given(t *testing.T, loads, octets, n int) *cyclics.End {
	t.Helper()
	x := made(t, loads, octets)
	for k := range n {
		accept(t, x, load(k))
	}
	return x
}

// accept gives loads to an end.
func accept(t *testing.T, x *cyclics.End, l ...[]byte) {
	t.Helper()
	for _, b := range l {
		if e := x.Accept(b); e != api.OK {
			t.Fatalf("Accept(%v): %d", b, e)
		}
	}
}

// next returns the next unit of an end.
func next(t *testing.T, x *cyclics.End) units.Unit {
	t.Helper()
	u, e := x.Next()
	if e != api.OK || units.Check(u) != api.OK || cap(u.Load) != len(u.Load) || !u.BackBit || !u.ForeBit {
		t.Fatalf("Next: %+v, %d", u, e)
	}
	return u
}

// sends checks the numbers of the next units of an end, whose load k has the number k modulo 128; -1 stands for a Fill.
func sends(t *testing.T, x *cyclics.End, want ...int) {
	t.Helper()
	for i, k := range want {
		u := next(t, x)
		switch {
		case k < 0 && u.Kind != units.Fill:
			t.Fatalf("unit %d is %+v, want a Fill", i, u)
		case k >= 0 && (u.Kind != units.Load || int(u.Fore) != k%128 || !bytes.Equal(u.Load, load(k))):
			t.Fatalf("unit %d is %+v, want load %d", i, u, k)
		}
	}
}

// texts checks the texts of the next units of an end.
func texts(t *testing.T, x *cyclics.End, want ...string) {
	t.Helper()
	for i, s := range want {
		if got := units.Text(next(t, x)); got != s {
			t.Fatalf("unit %d is %q, want %q", i, got, s)
		}
	}
}

// hears checks what an end accepts of a unit that does not make it fail.
func hears(t *testing.T, x *cyclics.End, u units.Unit, want ...[]byte) {
	t.Helper()
	if l, e := x.Hear(u); e != api.OK || !equal(l, want) || !own(l) {
		t.Fatalf("Hear(%+v): %v, %d, want %v", u, l, e, want)
	}
}

// retrieves checks what an end retrieves.
func retrieves(t *testing.T, x *cyclics.End, last uint8, want ...[]byte) {
	t.Helper()
	if l, e := x.Retrieve(last); e != api.OK || !equal(l, want) || !own(l) {
		t.Fatalf("Retrieve(%d): %v, %d, want %v", last, l, e, want)
	}
}

// waits checks the numbers of loads that wait in an end.
func waits(t *testing.T, x *cyclics.End, queued, unacknowledged int) {
	t.Helper()
	if a, b := x.Waiting(); a != queued || b != unacknowledged {
		t.Fatalf("%d and %d loads wait, want %d and %d", a, b, queued, unacknowledged)
	}
}

// opened returns an end with the greatest limits that has sent the loads below n, of which those below acknowledged have been acknowledged, and whose place is 0.
func opened(t *testing.T, acknowledged, n int) *cyclics.End {
	t.Helper()
	x := made(t, maxLoads, maxOctets)
	for k := range n {
		accept(t, x, load(k))
		next(t, x)
		if k < acknowledged {
			hears(t, x, fill(uint8(k%128), 127))
		}
	}
	waits(t, x, 0, n-acknowledged)
	return x
}

// advanced returns an end that has accepted the loads below n.
func advanced(t *testing.T, n int) *cyclics.End {
	t.Helper()
	x := made(t, maxLoads, maxOctets)
	for k := range n {
		hears(t, x, message(127, uint8(k%128), load(k)), load(k))
	}
	return x
}

// failed returns an end that has failed with the loads below 2 open and load 2 in its queue.
func failed(t *testing.T) *cyclics.End {
	t.Helper()
	x := opened(t, 0, 2)
	accept(t, x, load(2))
	hears(t, x, fill(9, 127))
	if l, e := x.Hear(fill(9, 127)); e != api.ErrState || len(l) != 0 {
		t.Fatalf("the end does not fail: %v, %d", l, e)
	}
	return x
}

// snapshot describes all that an end tells without a change.
func snapshot(x *cyclics.End) string {
	var out strings.Builder
	a, b := x.Waiting()
	out.WriteString(strings.Repeat("q", a) + strings.Repeat("u", b) + string(rune('0'+x.Last())))
	if x.Failed() {
		out.WriteString("failed")
	}
	for n := range 256 {
		l, e := x.Retrieve(uint8(n))
		out.WriteByte(byte(e))
		out.Write(bytes.Join(l, []byte("|")))
	}
	return out.String()
}

// entry is a load that has been sent, with its number.
type entry struct {
	number uint8
	load   []byte
}

// model is an end by its definitions.
type model struct {
	loads, octets                int
	queue                        [][]byte
	open                         []entry
	place                        int
	forced                       bool
	sent, acknowledged, accepted uint8
	abnormal                     []bool // of all units that were heard
	failed                       bool
	begun, ended, wrapped, taken int // what has happened
}

func newModel(loads, octets int) *model {
	return &model{loads: loads, octets: octets, sent: 127, acknowledged: 127, accepted: 127}
}

func (x *model) accept(l []byte) api.Errno {
	switch {
	case x.failed:
		return api.ErrState
	case len(l) < 2 || len(l) > maxLoad:
		return api.ErrWidth
	case len(x.queue) == maxQueue:
		return api.ErrFull
	}
	x.queue = append(x.queue, l)
	return api.OK
}

func (x *model) limited() bool {
	octets := 0
	for _, y := range x.open {
		octets += len(y.load)
	}
	return len(x.open) >= x.loads || octets >= x.octets
}

func (x *model) next() (units.Unit, api.Errno) {
	if x.failed {
		return units.Unit{}, api.ErrState
	}
	if !x.forced && x.limited() { // 1
		x.forced, x.place = true, 0
		x.begun++
	}
	if x.forced && x.place == len(x.open) { // 2
		if x.limited() {
			x.place = 0
			x.wrapped++
		} else {
			x.forced = false
			x.ended++
		}
	}
	if !x.forced && len(x.queue) > 0 { // 3
		x.sent = (x.sent + 1) % 128
		x.open = append(x.open, entry{x.sent, x.queue[0]})
		x.queue = x.queue[1:]
		return message(x.accepted, x.sent, x.open[len(x.open)-1].load), api.OK
	}
	if len(x.open) > 0 { // 4
		if x.place == len(x.open) {
			x.place = 0
		}
		y := x.open[x.place]
		x.place++
		return message(x.accepted, y.number, y.load), api.OK
	}
	return fill(x.accepted, x.sent), api.OK // 5
}

// isAbnormal reports whether a unit acknowledges a load that was not sent.
func (x *model) isAbnormal(back uint8) bool {
	return (int(back)-int(x.acknowledged)+128)%128 > (int(x.sent)-int(x.acknowledged)+128)%128
}

func (x *model) hear(u units.Unit) ([][]byte, api.Errno) {
	if x.failed {
		return nil, api.ErrState
	}
	if e := units.Check(u); e != api.OK {
		return nil, e
	}
	if u.Kind == units.State {
		return nil, api.OK
	}
	before := x.abnormal[max(0, len(x.abnormal)-2):]
	x.abnormal = append(slices.Clone(x.abnormal), x.isAbnormal(u.Back))
	if x.isAbnormal(u.Back) { // 1
		if slices.Contains(before, true) {
			x.failed = true
			return nil, api.ErrState
		}
		return nil, api.OK
	}
	for x.acknowledged != u.Back { // 2
		x.acknowledged = x.open[0].number
		x.open = x.open[1:]
		if x.place > 0 {
			x.place--
		}
	}
	if u.Kind == units.Load && u.Fore == (x.accepted+1)%128 { // 3
		x.accepted = u.Fore
		x.taken++
		return [][]byte{u.Load}, api.OK
	}
	return nil, api.OK
}

func (x *model) retrieve(last uint8) ([][]byte, api.Errno) {
	from := -1
	if last == x.acknowledged {
		from = 0
	}
	for i, y := range x.open {
		if y.number == last {
			from = i + 1
		}
	}
	if from < 0 {
		return nil, api.ErrArg
	}
	var out [][]byte
	for _, y := range x.open[from:] {
		out = append(out, y.load)
	}
	return append(out, x.queue...), api.OK
}

// agrees checks what an end tells against the model.
func (x *model) agrees(t *testing.T, y *cyclics.End) {
	t.Helper()
	waits(t, y, len(x.queue), len(x.open))
	if y.Failed() != x.failed || y.Last() != x.accepted {
		t.Fatalf("failed %v, last %d, want %v, %d", y.Failed(), y.Last(), x.failed, x.accepted)
	}
}

// retrievesAll checks what an end retrieves for every number against the model.
func (x *model) retrievesAll(t *testing.T, y *cyclics.End) {
	t.Helper()
	for last := range 256 {
		got, e := y.Retrieve(uint8(last))
		want, f := x.retrieve(uint8(last))
		if e != f || !equal(got, want) || !own(got) {
			t.Fatalf("Retrieve(%d): %v, %d, want %v, %d", last, got, e, want, f)
		}
	}
}

// heard returns a unit for an end like the model to hear.
func heard(r *random, y *model, wild int) units.Unit {
	back := y.acknowledged
	if len(y.open) > 0 && r.below(2) == 0 {
		back = y.open[r.below(min(len(y.open), 1+r.below(8)))].number
	}
	if r.below(wild) == 0 {
		back = uint8(r.below(130))
	}
	u := units.Unit{Back: back, BackBit: r.below(2) == 0, Fore: (y.accepted + uint8(r.below(3))) % 128, ForeBit: r.below(2) == 0}
	switch r.below(8) {
	case 0:
		u.Fore = uint8(r.below(130))
	case 1:
		u.Kind, u.Status = units.State, uint8(r.below(7))
	case 2, 3:
		u.Kind, u.Fore, u.Load = units.Load, (y.accepted+1)%128, r.load()
	case 4:
		u.Kind, u.Load = units.Load, r.load()
	}
	return u
}

// step does one random thing to an end and to its model, and compares the results.
func step(t *testing.T, r *random, x *cyclics.End, y *model, wild, eager int) {
	t.Helper()
	switch r.below(6) {
	case 0:
		for range r.below(eager + 1) {
			l := r.load()
			if r.below(30) == 0 {
				l = l[:r.below(2)]
			}
			if got, want := x.Accept(l), y.accept(l); got != want {
				t.Fatalf("Accept(%v): %d, want %d", l, got, want)
			}
		}
	case 1, 2, 3, 4:
		u, e := x.Next()
		v, f := y.next()
		if e != f || !units.Same(u, v) || cap(u.Load) != len(u.Load) {
			t.Fatalf("Next: %+v, %d, want %+v, %d", u, e, v, f)
		}
	case 5:
		u := heard(r, y, wild)
		got, e := x.Hear(u)
		want, f := y.hear(u)
		if e != f || !equal(got, want) || !own(got) {
			t.Fatalf("Hear(%+v): %v, %d, want %v, %d", u, got, e, want, f)
		}
	}
	y.agrees(t, x)
}

// TestModel gives ends units of all kinds and compares all that they do with the model.
func TestModel(t *testing.T) {
	failures, total := 0, model{}
	for seed := range 900 {
		r := random(seed)
		loads, octets := 1+r.below(8), 1+r.below(30)
		switch r.below(3) {
		case 0:
			loads = 1 + r.below(maxLoads)
		case 1:
			octets = 1 + r.below(maxOctets)
		}
		x, y := made(t, loads, octets), newModel(loads, octets)
		wild := 1 + r.below(60) // how seldom units are abnormal
		eager := r.below(8)     // how many loads are given at most
		for range 500 {
			step(t, &r, x, y, wild, eager)
		}
		y.retrievesAll(t, x)
		if y.failed {
			failures++
		}
		total.begun, total.ended, total.wrapped, total.taken = total.begun+y.begun, total.ended+y.ended, total.wrapped+y.wrapped, total.taken+y.taken
	}
	if failures < 100 || failures > 800 || total.begun < 3000 || total.ended < 2000 || total.wrapped < 5000 || total.taken < 5000 {
		t.Errorf("%d failures; %d forced repetitions began, %d ended, %d went back; %d loads taken", failures, total.begun, total.ended, total.wrapped, total.taken)
	}
}

// TestEveryStep performs all short lists of steps with several limits and compares them with the model.
func TestEveryStep(t *testing.T) {
	const steps = 8
	run := func(list, loads, octets int) {
		x, y := made(t, loads, octets), newModel(loads, octets)
		for k := range steps {
			switch list >> (2 * k) & 3 {
			case 0:
				accept(t, x, load(k))
				y.accept(load(k))
			case 1, 2: // acknowledges the first open load, or all of them
				back := y.sent
				if list>>(2*k)&3 == 1 && len(y.open) > 0 {
					back = y.open[0].number
				}
				hears(t, x, fill(back, 127))
				y.hear(fill(back, 127))
			case 3:
				want, _ := y.next()
				if u := next(t, x); !units.Same(u, want) {
					t.Fatalf("steps %x, limits %d and %d: step %d sends %+v, want %+v", list, loads, octets, k, u, want)
				}
			}
		}
		y.agrees(t, x)
		// What stands in the ends is also seen in what they send next.
		for range 5 {
			want, _ := y.next()
			if u := next(t, x); !units.Same(u, want) {
				t.Fatalf("steps %x, limits %d and %d: behind them %+v is sent, want %+v", list, loads, octets, u, want)
			}
		}
	}
	for list := range 1 << (2 * steps) {
		run(list, 2, 100)
		run(list, 9, 5)
	}
}
