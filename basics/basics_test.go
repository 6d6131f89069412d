package basics_test

import (
	"bytes"
	"slices"
	"strings"
	"testing"

	"pointcode/api"
	"pointcode/basics"
	"pointcode/units"
)

const (
	maxQueue = 64  // loads
	maxOpen  = 127 // loads
	maxLoad  = 273 // octets
)

// random is a generator of numbers that is the same in every run.
type random uint32

// below returns a number from 0 to n-1.
func (r *random) below(n int) int {
	*r = *r*1664525 + 1013904223
	return int(*r>>8) % n
}

// load returns a load of some octets.
func (r *random) load() []byte {
	out := make([]byte, 2+r.below(3))
	for i := range out {
		out[i] = byte(r.below(256))
	}
	return out
}

// load returns the load with a number; all of the first 65536 differ.
func load(k int) []byte { return []byte{byte(k), byte(k >> 8)} }

// loads returns the loads with the numbers from a to b-1.
func loads(a, b int) [][]byte {
	var out [][]byte
	for k := a; k < b; k++ {
		out = append(out, load(k))
	}
	return out
}

// fill, message and state return units.
func fill(back uint8, backBit bool, fore uint8, foreBit bool) units.Unit {
	return units.Unit{Back: back, BackBit: backBit, Fore: fore, ForeBit: foreBit}
}

func message(back uint8, backBit bool, fore uint8, foreBit bool, l []byte) units.Unit {
	return units.Unit{Back: back, BackBit: backBit, Fore: fore, ForeBit: foreBit, Kind: units.Load, Load: l}
}

func state(status, back, fore uint8) units.Unit {
	return units.Unit{Back: back, Fore: fore, Kind: units.State, Status: status}
}

// equal reports whether two lists of loads are equal.
func equal(a, b [][]byte) bool { return slices.EqualFunc(a, b, bytes.Equal) }

// own reports whether the capacities of a list of loads are its lengths.
func own(l [][]byte) bool {
	return cap(l) == len(l) && !slices.ContainsFunc(l, func(b []byte) bool { return cap(b) != len(b) })
}

// none contains the ends that are no ends.
func none() map[string]*basics.End {
	return map[string]*basics.End{"nil": nil, "zero": new(basics.End)}
}

// accept gives loads to an end.
func accept(t *testing.T, x *basics.End, l ...[]byte) {
	t.Helper()
	for _, b := range l {
		if e := x.Accept(b); e != api.OK {
			t.Fatalf("Accept(%v): %d", b, e)
		}
	}
}

// next returns the next unit of an end.
func next(t *testing.T, x *basics.End) units.Unit {
	t.Helper()
	u, e := x.Next()
	if e != api.OK || units.Check(u) != api.OK || cap(u.Load) != len(u.Load) {
		t.Fatalf("Next: %+v, %d", u, e)
	}
	return u
}

// sends checks the texts of the next units of an end.
func sends(t *testing.T, x *basics.End, want ...string) {
	t.Helper()
	for i, s := range want {
		if got := units.Text(next(t, x)); got != s {
			t.Fatalf("unit %d is %q, want %q", i, got, s)
		}
	}
}

// hears checks what an end accepts of a unit that does not make it fail.
func hears(t *testing.T, x *basics.End, u units.Unit, want ...[]byte) {
	t.Helper()
	if l, e := x.Hear(u); e != api.OK || !equal(l, want) || !own(l) {
		t.Fatalf("Hear(%+v): %v, %d, want %v", u, l, e, want)
	}
}

// retrieves checks what an end retrieves.
func retrieves(t *testing.T, x *basics.End, last uint8, want ...[]byte) {
	t.Helper()
	if l, e := x.Retrieve(last); e != api.OK || !equal(l, want) || !own(l) {
		t.Fatalf("Retrieve(%d): %v, %d, want %v", last, l, e, want)
	}
}

// waits checks the numbers of loads that wait in an end.
func waits(t *testing.T, x *basics.End, queued, unacknowledged int) {
	t.Helper()
	if a, b := x.Waiting(); a != queued || b != unacknowledged {
		t.Fatalf("%d and %d loads wait, want %d and %d", a, b, queued, unacknowledged)
	}
}

// opened returns an end that has sent the loads below n, of which those below acknowledged have been acknowledged.
func opened(t *testing.T, acknowledged, n int) *basics.End {
	t.Helper()
	x := basics.New()
	for k := range n {
		accept(t, x, load(k))
		next(t, x)
		if k < acknowledged {
			hears(t, x, fill(uint8(k%128), true, 127, true))
		}
	}
	waits(t, x, 0, n-acknowledged)
	return x
}

// advanced returns an end that has accepted the loads below n, and whose back bit is not set if inverted.
func advanced(t *testing.T, n int, inverted bool) *basics.End {
	t.Helper()
	x := basics.New()
	for k := range n {
		hears(t, x, message(127, true, uint8(k%128), true, load(k)), load(k))
	}
	if inverted {
		hears(t, x, fill(127, true, uint8((n+63)%128), true))
	}
	return x
}

// failed returns an end that has failed with the loads below 2 open and load 2 in its queue.
func failed(t *testing.T) *basics.End {
	t.Helper()
	x := opened(t, 0, 2)
	accept(t, x, load(2))
	hears(t, x, fill(9, true, 127, true))
	if l, e := x.Hear(fill(9, true, 127, true)); e != api.ErrState || len(l) != 0 {
		t.Fatalf("the end does not fail: %v, %d", l, e)
	}
	return x
}

// snapshot describes all that an end tells without a change.
func snapshot(x *basics.End) string {
	var out strings.Builder
	a, b := x.Waiting()
	out.WriteString(strings.Repeat("q", a) + strings.Repeat("u", b) + string(rune('0'+x.Last())))
	if x.Failed() {
		out.WriteString("failed")
	}
	for n := range 256 {
		l, e := x.Retrieve(uint8(n))
		out.WriteByte(byte(e))
		out.Write(bytes.Join(l, []byte("|")))
	}
	return out.String()
}

// entry is a load that has been sent, with its number.
type entry struct {
	number uint8
	load   []byte
	again  bool // it is still to be repeated
}

// model is an end by its definitions.
type model struct {
	queue             [][]byte
	open              []entry
	sent              uint8
	acknowledged      uint8
	foreBit, backBit  bool
	accepted          uint8
	abnormal          []bool // of all units that were heard
	failed            bool
	given, taken      [][]byte // all loads that it was given, and that it has accepted
	repeated, skipped int
}

func newModel() *model {
	return &model{sent: 127, acknowledged: 127, foreBit: true, backBit: true, accepted: 127}
}

func (x *model) accept(l []byte) api.Errno {
	switch {
	case x.failed:
		return api.ErrState
	case len(l) < 2 || len(l) > maxLoad:
		return api.ErrWidth
	case len(x.queue) == maxQueue:
		return api.ErrFull
	}
	x.queue = append(x.queue, l)
	x.given = append(x.given, l)
	return api.OK
}

func (x *model) next() (units.Unit, api.Errno) {
	if x.failed {
		return units.Unit{}, api.ErrState
	}
	for i := range x.open {
		if x.open[i].again {
			x.open[i].again = false
			x.repeated++
			return message(x.accepted, x.backBit, x.open[i].number, x.foreBit, x.open[i].load), api.OK
		}
	}
	if len(x.queue) > 0 && len(x.open) < maxOpen {
		l := x.queue[0]
		x.queue = x.queue[1:]
		x.sent = (x.sent + 1) % 128
		x.open = append(x.open, entry{number: x.sent, load: l})
		return message(x.accepted, x.backBit, x.sent, x.foreBit, l), api.OK
	}
	return fill(x.accepted, x.backBit, x.sent, x.foreBit), api.OK
}

// isAbnormal reports whether a unit acknowledges a load that was not sent.
func (x *model) isAbnormal(back uint8) bool {
	return (int(back)-int(x.acknowledged)+128)%128 > (int(x.sent)-int(x.acknowledged)+128)%128
}

func (x *model) hear(u units.Unit) ([][]byte, api.Errno) {
	if x.failed {
		return nil, api.ErrState
	}
	if e := units.Check(u); e != api.OK {
		return nil, e
	}
	if u.Kind == units.State {
		return nil, api.OK
	}
	before := x.abnormal[max(0, len(x.abnormal)-2):]
	x.abnormal = append(slices.Clone(x.abnormal), x.isAbnormal(u.Back))
	if x.isAbnormal(u.Back) {
		if slices.Contains(before, true) {
			x.failed = true
			return nil, api.ErrState
		}
		return nil, api.OK
	}
	for x.acknowledged != u.Back {
		if x.open[0].again {
			x.skipped++
		}
		x.acknowledged = x.open[0].number
		x.open = x.open[1:]
	}
	if u.BackBit != x.foreBit {
		x.foreBit = u.BackBit
		for i := range x.open {
			x.open[i].again = true
		}
	}
	if u.ForeBit != x.backBit {
		return nil, api.OK
	}
	if u.Kind == units.Load && u.Fore == (x.accepted+1)%128 {
		x.accepted = u.Fore
		x.taken = append(x.taken, u.Load)
		return [][]byte{u.Load}, api.OK
	}
	if u.Fore != x.accepted {
		x.backBit = !x.backBit
	}
	return nil, api.OK
}

func (x *model) retrieve(last uint8) ([][]byte, api.Errno) {
	from := -1
	if last == x.acknowledged {
		from = 0
	}
	for i, y := range x.open {
		if y.number == last {
			from = i + 1
		}
	}
	if from < 0 {
		return nil, api.ErrArg
	}
	var out [][]byte
	for _, y := range x.open[from:] {
		out = append(out, y.load)
	}
	return append(out, x.queue...), api.OK
}

// agrees checks what an end tells against the model.
func (x *model) agrees(t *testing.T, y *basics.End) {
	t.Helper()
	waits(t, y, len(x.queue), len(x.open))
	if y.Failed() != x.failed || y.Last() != x.accepted {
		t.Fatalf("failed %v, last %d, want %v, %d", y.Failed(), y.Last(), x.failed, x.accepted)
	}
}

// retrievesAll checks what an end retrieves for every number against the model.
func (x *model) retrievesAll(t *testing.T, y *basics.End) {
	t.Helper()
	for last := range 256 {
		got, e := y.Retrieve(uint8(last))
		want, f := x.retrieve(uint8(last))
		if e != f || !equal(got, want) || !own(got) {
			t.Fatalf("Retrieve(%d): %v, %d, want %v, %d", last, got, e, want, f)
		}
	}
}

// P6.1

func TestNew(t *testing.T) {
	x, y := basics.New(), basics.New()
	if x == nil || y == nil || x == y {
		t.Fatal("New does not return a new end")
	}
	waits(t, x, 0, 0)
	if x.Failed() || x.Last() != 127 {
		t.Errorf("failed %v, last %d", x.Failed(), x.Last())
	}
	for last := range 256 {
		want := api.ErrArg
		if last == 127 {
			want = api.OK
		}
		if l, e := x.Retrieve(uint8(last)); e != want || len(l) != 0 {
			t.Errorf("Retrieve(%d): %v, %d", last, l, e)
		}
	}
	sends(t, x, "back 127+ fore 127+ fill", "back 127+ fore 127+ fill")
	accept(t, x, load(1))
	sends(t, x, "back 127+ fore 0+ load 0100")
	hears(t, x, message(127, true, 0, true, load(2)), load(2))
	waits(t, x, 0, 1)
	waits(t, y, 0, 0)
	sends(t, y, "back 127+ fore 127+ fill")
}

func TestAccept(t *testing.T) {
	x := basics.New()
	for k := range maxQueue {
		accept(t, x, load(k))
		waits(t, x, k+1, 0)
	}
	retrieves(t, x, 127, loads(0, maxQueue)...)
	for k := range maxQueue {
		if u := next(t, x); !bytes.Equal(u.Load, load(k)) {
			t.Fatalf("%v is sent in place %d", u.Load, k)
		}
	}
}

func TestAcceptLengths(t *testing.T) {
	for n := range 600 {
		x := basics.New()
		l := bytes.Repeat([]byte{7}, n)
		want, queued := api.OK, 1
		if n < 2 || n > maxLoad {
			want, queued = api.ErrWidth, 0
		}
		if e := x.Accept(l); e != want {
			t.Errorf("a load of %d octets: %d, want %d", n, e, want)
		}
		waits(t, x, queued, 0)
		if u := next(t, x); want == api.OK && !bytes.Equal(u.Load, l) || want != api.OK && u.Kind != units.Fill {
			t.Errorf("a load of %d octets is sent as %+v", n, u)
		}
	}
}

func TestAcceptInFullQueue(t *testing.T) {
	x := opened(t, 0, 3)
	for k := 3; k < 3+maxQueue; k++ {
		accept(t, x, load(k))
	}
	before := snapshot(x)
	for _, y := range []struct {
		l    []byte
		want api.Errno
	}{
		{load(0), api.ErrFull},
		{make([]byte, maxLoad), api.ErrFull},
		{nil, api.ErrWidth}, // which is named first
		{[]byte{}, api.ErrWidth},
		{make([]byte, 1), api.ErrWidth},
		{make([]byte, maxLoad+1), api.ErrWidth},
	} {
		if e := x.Accept(y.l); e != y.want {
			t.Errorf("Accept of %d octets: %d, want %d", len(y.l), e, y.want)
		}
		if snapshot(x) != before {
			t.Fatalf("Accept of %d octets changes the end", len(y.l))
		}
	}
	next(t, x)
	accept(t, x, load(67))
	if e := x.Accept(load(0)); e != api.ErrFull {
		t.Errorf("full again: %d", e)
	}
	retrieves(t, x, 127, loads(0, 68)...)
}

func TestAcceptErrors(t *testing.T) {
	for _, l := range [][]byte{nil, {}, {1}, {1, 2}, make([]byte, maxLoad+1)} {
		for name, x := range none() {
			if e := x.Accept(l); e != api.ErrNil {
				t.Errorf("%s, %d octets: %d", name, len(l), e)
			}
		}
		x := failed(t)
		before := snapshot(x)
		if e := x.Accept(l); e != api.ErrState || snapshot(x) != before {
			t.Errorf("failed, %d octets: %d", len(l), e)
		}
	}
	x := basics.New()
	for k := range maxQueue {
		accept(t, x, load(k))
	}
	x.Hear(fill(0, true, 127, true))
	x.Hear(fill(0, true, 127, true))
	if e := x.Accept(load(0)); e != api.ErrState || !x.Failed() {
		t.Errorf("failed with a full queue: %d", e)
	}
}

// P6.2

func TestNext(t *testing.T) {
	x := basics.New()
	accept(t, x, load(1), load(2))
	sends(t, x, "back 127+ fore 0+ load 0100", "back 127+ fore 1+ load 0200", "back 127+ fore 1+ fill", "back 127+ fore 1+ fill")
	accept(t, x, load(3))
	sends(t, x, "back 127+ fore 2+ load 0300", "back 127+ fore 2+ fill")
	waits(t, x, 0, 3)
	hears(t, x, message(127, true, 0, true, load(9)), load(9))
	sends(t, x, "back 0+ fore 2+ fill")
	hears(t, x, message(127, true, 2, true, load(9)))
	sends(t, x, "back 0- fore 2+ fill")
	hears(t, x, fill(2, true, 127, true))
	sends(t, x, "back 0- fore 2+ fill")
}

func TestNextRepeats(t *testing.T) {
	x := opened(t, 0, 3)
	accept(t, x, load(3))
	hears(t, x, fill(127, false, 127, true))
	waits(t, x, 1, 3)
	sends(t, x, "back 127+ fore 0- load 0000", "back 127+ fore 1- load 0100")
	waits(t, x, 1, 3)
	accept(t, x, load(4))
	sends(t, x, "back 127+ fore 2- load 0200", "back 127+ fore 3- load 0300", "back 127+ fore 4- load 0400", "back 127+ fore 4- fill")
	// The same bit asks for nothing more, the other one for all again.
	hears(t, x, fill(0, false, 127, true))
	sends(t, x, "back 127+ fore 4- fill")
	hears(t, x, fill(0, true, 127, true))
	sends(t, x, "back 127+ fore 1+ load 0100")
	hears(t, x, fill(1, false, 127, true))
	sends(t, x, "back 127+ fore 2- load 0200", "back 127+ fore 3- load 0300", "back 127+ fore 4- load 0400", "back 127+ fore 4- fill")
	hears(t, x, fill(4, true, 127, true))
	sends(t, x, "back 127+ fore 4+ fill")
}

// All that is open is repeated after an acknowledgement, whatever has been repeated before.
func TestNextOfEveryRepetition(t *testing.T) {
	const n = 6
	for first := range n + 1 { // the loads that are acknowledged with the request
		for repeats := range n + 3 {
			for later := first; later <= n; later++ { // those that are acknowledged during the repetition
				x := opened(t, 0, n)
				hears(t, x, fill(uint8(first+127)%128, false, 127, true))
				for i := range repeats {
					want := units.Text(message(127, true, uint8(first+i), false, load(first+i)))
					if first+i >= n {
						want = units.Text(fill(127, true, n-1, false))
					}
					sends(t, x, want)
				}
				hears(t, x, fill(uint8(later+127)%128, false, 127, true))
				accept(t, x, load(n))
				for k := min(max(first+repeats, later), n); k <= n; k++ {
					sends(t, x, units.Text(message(127, true, uint8(k), false, load(k))))
				}
				sends(t, x, units.Text(fill(127, true, n, false)))
			}
		}
	}
}

func TestNextNumbers(t *testing.T) {
	x := basics.New()
	for k := range 600 {
		accept(t, x, load(k))
		number := uint8(k % 128)
		sends(t, x, units.Text(message(127, true, number, true, load(k))), units.Text(fill(127, true, number, true)))
		if k%5 == 4 {
			hears(t, x, fill(number, true, 127, true))
			sends(t, x, units.Text(fill(127, true, number, true)))
		}
	}
}

func TestNextOfManyOpenLoads(t *testing.T) {
	x := opened(t, 100, 227)
	accept(t, x, load(227), load(228))
	waits(t, x, 2, maxOpen)
	full := units.Text(fill(127, true, 226%128, true))
	sends(t, x, full, full)
	waits(t, x, 2, maxOpen)
	// All of them are repeated, and no new one is sent behind them.
	hears(t, x, fill(99, false, 127, true))
	for k := 100; k < 227; k++ {
		sends(t, x, units.Text(message(127, true, uint8(k%128), false, load(k))))
	}
	sends(t, x, units.Text(fill(127, true, 226%128, false)))
	hears(t, x, fill(100, false, 127, true))
	sends(t, x, units.Text(message(127, true, 227%128, false, load(227))), units.Text(fill(127, true, 227%128, false)))
	waits(t, x, 1, maxOpen)
	hears(t, x, fill(227%128, false, 127, true))
	waits(t, x, 1, 0)
	sends(t, x, units.Text(message(127, true, 228%128, false, load(228))))
}

func TestNextErrors(t *testing.T) {
	for name, x := range none() {
		if u, e := x.Next(); e != api.ErrNil || !units.Same(u, units.Unit{}) {
			t.Errorf("%s: %+v, %d", name, u, e)
		}
	}
	x := failed(t)
	before := snapshot(x)
	for range 3 {
		if u, e := x.Next(); e != api.ErrState || !units.Same(u, units.Unit{}) || snapshot(x) != before {
			t.Errorf("failed: %+v, %d", u, e)
		}
	}
}

// P6.3

// Every number Back for every number of open loads is abnormal or acknowledges as many as it says.
func TestHearOfEveryBack(t *testing.T) {
	for _, acknowledged := range []int{0, 1, 60, 127, 128, 129, 200} {
		for _, n := range []int{0, 1, 2, 63, 64, 126, 127} {
			for back := range 128 {
				x := opened(t, acknowledged, acknowledged+n)
				hears(t, x, fill(uint8(back), true, 127, true))
				gone := (back - acknowledged + 1 + 256) % 128
				if gone > n {
					gone = 0
					hears(t, x, fill(uint8((acknowledged+127)%128), true, 127, true))
				}
				waits(t, x, 0, n-gone)
				retrieves(t, x, uint8((acknowledged+gone+127)%128), loads(acknowledged+gone, acknowledged+n)...)
			}
		}
	}
}

// An abnormal unit has no other effect.
func TestHearOfAbnormalUnits(t *testing.T) {
	for _, u := range []units.Unit{
		fill(2, true, 127, true), fill(2, false, 127, true), fill(126, false, 5, true), fill(126, true, 5, false),
		message(2, true, 0, true, load(9)), message(100, false, 0, true, load(9)), message(126, false, 7, true, load(9)),
	} {
		x := opened(t, 0, 2)
		before := snapshot(x)
		hears(t, x, u)
		if snapshot(x) != before {
			t.Errorf("%+v changes the end", u)
		}
		sends(t, x, "back 127+ fore 1+ fill")
		hears(t, x, message(127, true, 0, true, load(8)), load(8))
	}
}

func TestHearOfEveryFore(t *testing.T) {
	for _, n := range []int{0, 1, 2, 127, 128, 129, 300} {
		for _, inverted := range []bool{false, true} {
			for fore := range 128 {
				for kind := range 4 { // a Load or a Fill, with or without the fore bit
					u := fill(127, true, uint8(fore), kind&1 == 0)
					if kind&2 == 0 {
						u.Kind, u.Load = units.Load, load(7)
					}
					last, bit := (n+127)%128, !inverted
					var want [][]byte
					if u.ForeBit == bit && u.Kind == units.Load && fore == n%128 {
						want, last = [][]byte{load(7)}, fore
					} else if u.ForeBit == bit && fore != last {
						bit = !bit
					}
					x := advanced(t, n, inverted)
					hears(t, x, u, want...)
					if x.Last() != uint8(last) {
						t.Fatalf("%+v behind %d loads: last %d, want %d", u, n, x.Last(), last)
					}
					sends(t, x, units.Text(fill(uint8(last), bit, 127, true)))
				}
			}
		}
	}
}

func TestHearOfLoads(t *testing.T) {
	x := basics.New()
	hears(t, x, message(127, true, 0, true, load(0)), load(0))
	hears(t, x, message(127, true, 0, true, load(0)))
	sends(t, x, "back 0+ fore 127+ fill")
	hears(t, x, message(127, true, 2, true, load(2)))
	sends(t, x, "back 0- fore 127+ fill")
	// Until the other end repeats, nothing is accepted.
	for fore := range uint8(128) {
		hears(t, x, message(127, true, fore, true, load(3)))
		hears(t, x, fill(127, true, fore, true))
	}
	sends(t, x, "back 0- fore 127+ fill")
	big := bytes.Repeat([]byte{5}, maxLoad)
	hears(t, x, message(127, true, 1, false, big), big)
	hears(t, x, message(127, true, 2, false, load(2)), load(2))
	sends(t, x, "back 2- fore 127+ fill")
	// The last load is missed, which a Fill tells.
	hears(t, x, fill(127, true, 3, false))
	sends(t, x, "back 2+ fore 127+ fill")
	hears(t, x, message(127, true, 3, true, load(3)), load(3))
	sends(t, x, "back 3+ fore 127+ fill")
}

// One unit acknowledges, asks for a repetition and brings a load.
func TestHearOfAll(t *testing.T) {
	x := opened(t, 0, 4)
	accept(t, x, load(4))
	hears(t, x, message(1, false, 0, true, load(77)), load(77))
	waits(t, x, 1, 2)
	sends(t, x, "back 0+ fore 2- load 0200", "back 0+ fore 3- load 0300", "back 0+ fore 4- load 0400", "back 0+ fore 4- fill")
	hears(t, x, message(3, true, 5, true, load(78)))
	sends(t, x, "back 0- fore 4+ load 0400", "back 0- fore 4+ fill")
}

// A State changes nothing, nor is it one of the last two units.
func TestHearOfStates(t *testing.T) {
	for status := range uint8(6) {
		x := opened(t, 0, 3)
		hears(t, x, fill(127, false, 127, true))
		hears(t, x, fill(99, true, 127, true))
		before := snapshot(x)
		for back := range uint8(128) {
			for _, u := range []units.Unit{state(status, back, 0), state(status, 0, back)} {
				hears(t, x, u)
				u.BackBit, u.ForeBit = true, true
				hears(t, x, u)
			}
		}
		if snapshot(x) != before {
			t.Errorf("states %d change the end", status)
		}
		sends(t, x, "back 127+ fore 0- load 0000", "back 127+ fore 1- load 0100", "back 127+ fore 2- load 0200", "back 127+ fore 2- fill")
		hears(t, x, fill(127, false, 127, true))
		hears(t, x, state(status, 99, 9))
		if _, e := x.Hear(fill(99, true, 127, true)); e != api.ErrState || !x.Failed() {
			t.Errorf("behind an abnormal unit, states %d and a unit, an abnormal one: %d", status, e)
		}
	}
}

// invalid contains units with their errors.
var invalid = []struct {
	u units.Unit
	e api.Errno
}{
	{units.Unit{Back: 128, BackBit: true, Fore: 0, ForeBit: true}, api.ErrArg},
	{units.Unit{Back: 255, BackBit: true, Fore: 0, ForeBit: true}, api.ErrArg},
	{units.Unit{Fore: 128}, api.ErrArg},
	{units.Unit{Kind: 3}, api.ErrArg},
	{units.Unit{Status: 1}, api.ErrArg},
	{units.Unit{Kind: units.State, Status: 6}, api.ErrArg},
	{units.Unit{Kind: units.Load, Status: 1, Load: load(1)}, api.ErrArg},
	{units.Unit{Back: 1, Kind: units.Load, Fore: 128, Load: []byte{1}}, api.ErrArg},
	{units.Unit{Back: 1, ForeBit: true, Kind: units.Load}, api.ErrWidth},
	{units.Unit{Back: 1, ForeBit: true, Kind: units.Load, Load: []byte{}}, api.ErrWidth},
	{units.Unit{Back: 1, ForeBit: true, Kind: units.Load, Load: []byte{1}}, api.ErrWidth},
	{units.Unit{Back: 1, ForeBit: true, Kind: units.Load, Load: make([]byte, maxLoad+1)}, api.ErrWidth},
	{units.Unit{Back: 1, ForeBit: true, Load: []byte{1, 2}}, api.ErrWidth},
	{units.Unit{Back: 1, Kind: units.State, Load: []byte{1, 2}}, api.ErrWidth},
	{units.Unit{Back: 99, Load: []byte{1, 2}}, api.ErrWidth},
}

// An invalid unit changes nothing, nor is it one of the last two units.
func TestHearOfInvalidUnits(t *testing.T) {
	for _, y := range invalid {
		x := opened(t, 0, 3)
		before := snapshot(x)
		for range 4 {
			if l, e := x.Hear(y.u); e != y.e || len(l) != 0 || snapshot(x) != before {
				t.Errorf("Hear(%+v): %v, %d, want %d", y.u, l, e, y.e)
			}
		}
		sends(t, x, "back 127+ fore 2+ fill")
		hears(t, x, fill(99, true, 127, true))
		for range 2 {
			if _, e := x.Hear(y.u); e != y.e || x.Failed() {
				t.Errorf("Hear(%+v) behind an abnormal unit: %d, want %d", y.u, e, y.e)
			}
		}
		if _, e := x.Hear(fill(99, true, 127, true)); e != api.ErrState || !x.Failed() {
			t.Errorf("two abnormal units, between them %+v: %d", y.u, e)
		}
		if l, e := x.Hear(y.u); e != api.ErrState || len(l) != 0 {
			t.Errorf("Hear(%+v) after a failure: %v, %d", y.u, l, e)
		}
		for name, x := range none() {
			if l, e := x.Hear(y.u); e != api.ErrNil || len(l) != 0 {
				t.Errorf("Hear(%+v) of a %s End: %v, %d", y.u, name, l, e)
			}
		}
	}
}

// Every short list of abnormal, right, State and invalid units makes an end fail when two of three units in a row are abnormal.
func TestHearOfEveryFailure(t *testing.T) {
	kinds := []units.Unit{fill(9, true, 127, true), message(9, true, 0, true, load(1)), fill(127, true, 127, true), state(1, 9, 0), {Kind: 7}}
	all := [][]int{nil}
	for range 6 {
		var longer [][]int
		for _, list := range all {
			for k := range kinds {
				longer = append(longer, append(slices.Clone(list), k))
			}
		}
		all = longer
	}
	for _, list := range all {
		x := basics.New()
		accept(t, x, load(0))
		var heard []bool
		failed := false
		for i, k := range list {
			want := api.OK
			if k == 4 {
				want = api.ErrArg
			} else if k != 3 {
				failed = failed || k < 2 && slices.Contains(heard[max(0, len(heard)-2):], true)
				heard = append(heard, k < 2)
			}
			if failed {
				want = api.ErrState
			}
			if l, e := x.Hear(kinds[k]); e != want || len(l) != 0 || x.Failed() != failed {
				t.Fatalf("unit %d of %v: %v, %d, want %d; failed %v, want %v", i, list, l, e, want, x.Failed(), failed)
			}
		}
	}
}

func TestHearAfterFailure(t *testing.T) {
	x := failed(t)
	before := snapshot(x)
	for _, u := range []units.Unit{fill(127, true, 127, true), fill(1, false, 9, true), message(127, true, 0, true, load(1)), state(1, 0, 0)} {
		if l, e := x.Hear(u); e != api.ErrState || len(l) != 0 || snapshot(x) != before {
			t.Errorf("Hear(%+v): %v, %d", u, l, e)
		}
	}
	for name, x := range none() {
		for _, u := range []units.Unit{{}, fill(127, true, 127, true), message(127, true, 0, true, load(1)), state(1, 0, 0)} {
			if l, e := x.Hear(u); e != api.ErrNil || len(l) != 0 {
				t.Errorf("Hear(%+v) of a %s End: %v, %d", u, name, l, e)
			}
		}
	}
}

// TestHearExample follows the example of the chapter.
func TestHearExample(t *testing.T) {
	a, b := basics.New(), basics.New()
	accept(t, a, []byte{1, 1}, []byte{2, 2}, []byte{3, 3})
	var sent []units.Unit
	for range 3 {
		sent = append(sent, next(t, a))
	}
	hears(t, b, sent[0], []byte{1, 1})
	hears(t, b, sent[2])
	retrieves(t, a, b.Last(), []byte{2, 2}, []byte{3, 3})
	if l, e := a.Retrieve(5); e != api.ErrArg || len(l) != 0 {
		t.Errorf("Retrieve(5): %v, %d", l, e)
	}
	u := next(t, b)
	if units.Text(u) != "back 0- fore 127+ fill" {
		t.Errorf("b sends %q", units.Text(u))
	}
	hears(t, a, u)
	sends(t, a, "back 127+ fore 1- load 0202", "back 127+ fore 2- load 0303")
}

// TestModel gives ends units of all kinds and compares all that they do with the model.
func TestModel(t *testing.T) {
	failures, taken, repeated, skipped, full := 0, 0, 0, 0, 0
	for seed := range 600 {
		r := random(seed)
		x, y := basics.New(), newModel()
		wild := 1 + r.below(60) // how seldom units are abnormal
		eager := 1 + r.below(8) // how often loads are given
		for range 400 {
			switch r.below(4) {
			case 0:
				for range r.below(eager) {
					l := r.load()
					if r.below(20) == 0 {
						l = l[:r.below(2)]
					}
					got, want := x.Accept(l), y.accept(l)
					if got != want {
						t.Fatalf("seed %d: Accept(%v): %d, want %d", seed, l, got, want)
					}
					if got == api.ErrFull {
						full++
					}
				}
			case 1, 2:
				u, e := x.Next()
				v, f := y.next()
				if e != f || !units.Same(u, v) || cap(u.Load) != len(u.Load) {
					t.Fatalf("seed %d: Next: %+v, %d, want %+v, %d", seed, u, e, v, f)
				}
			case 3:
				u := heard(&r, y, wild)
				got, e := x.Hear(u)
				want, f := y.hear(u)
				if e != f || !equal(got, want) || !own(got) {
					t.Fatalf("seed %d: Hear(%+v): %v, %d, want %v, %d", seed, u, got, e, want, f)
				}
			}
			y.agrees(t, x)
		}
		y.retrievesAll(t, x)
		if y.failed {
			failures++
		}
		taken, repeated, skipped = taken+len(y.taken), repeated+y.repeated, skipped+y.skipped
	}
	if failures < 100 || failures > 500 || taken < 5000 || repeated < 5000 || skipped < 500 || full < 500 {
		t.Errorf("%d failures, %d loads taken, %d repeated, %d not repeated any more, %d refused", failures, taken, repeated, skipped, full)
	}
}

// heard returns a unit for an end like the model to hear.
func heard(r *random, y *model, wild int) units.Unit {
	back := y.acknowledged
	if len(y.open) > 0 && r.below(2) == 0 {
		back = y.open[r.below(min(len(y.open), 4))].number
	}
	if r.below(wild) == 0 {
		back = uint8(r.below(130))
	}
	u := fill(back, y.foreBit != (r.below(6) == 0), (y.accepted+uint8(r.below(3)))%128, y.backBit != (r.below(4) == 0))
	switch r.below(8) {
	case 0:
		u.Fore = uint8(r.below(130))
	case 1:
		u.Kind, u.Status = units.State, uint8(r.below(7))
	case 2, 3, 4, 5:
		u.Kind, u.Fore, u.Load = units.Load, (y.accepted+1)%128, r.load()
	case 6:
		u.Kind, u.Load = units.Load, r.load()
	}
	return u
}

// P6.4

func TestFailedLastWaiting(t *testing.T) {
	x := basics.New()
	accept(t, x, load(0), load(1), load(2))
	waits(t, x, 3, 0)
	next(t, x)
	next(t, x)
	waits(t, x, 1, 2)
	hears(t, x, message(0, true, 0, true, load(5)), load(5))
	waits(t, x, 1, 1)
	if x.Last() != 0 || x.Failed() {
		t.Errorf("last %d, failed %v", x.Last(), x.Failed())
	}
	x.Hear(fill(9, true, 0, true))
	if x.Failed() {
		t.Error("one abnormal unit makes the end fail")
	}
	x.Hear(fill(9, true, 0, true))
	waits(t, x, 1, 1)
	if x.Last() != 0 || !x.Failed() {
		t.Errorf("after the failure: last %d, failed %v", x.Last(), x.Failed())
	}
}

func TestFailedLastWaitingWithoutEnd(t *testing.T) {
	for name, x := range none() {
		x.Accept(load(1))
		x.Next()
		x.Hear(message(0, false, 1, false, load(1)))
		x.Hear(fill(9, false, 1, false))
		x.Hear(fill(9, false, 1, false))
		if a, b := x.Waiting(); a != 0 || b != 0 || x.Failed() || x.Last() != 0 {
			t.Errorf("%s: %d and %d loads, failed %v, last %d", name, a, b, x.Failed(), x.Last())
		}
	}
}

// An end whose numbers are all 0 and whose bits are not set is no zero End.
func TestEndLikeZero(t *testing.T) {
	x := opened(t, 0, 1)
	hears(t, x, message(0, false, 0, true, load(1)), load(1))
	hears(t, x, fill(0, false, 9, true))
	sends(t, x, "back 0- fore 0- fill")
	waits(t, x, 0, 0)
	retrieves(t, x, 0)
	accept(t, x, load(2))
	hears(t, x, message(0, false, 1, false, load(3)), load(3))
	sends(t, x, "back 1- fore 1- load 0200")
}

// P6.5

func TestRetrieve(t *testing.T) {
	for _, acknowledged := range []int{0, 1, 100, 127, 128, 129, 250} {
		for _, n := range []int{0, 1, 2, 20, 126, 127} {
			for _, queued := range []int{0, 1, maxQueue} {
				x := opened(t, acknowledged, acknowledged+n)
				for k := range queued {
					accept(t, x, load(acknowledged+n+k))
				}
				right := map[uint8]int{}
				for k := range n + 1 {
					right[uint8((acknowledged+k+127)%128)] = acknowledged + k
				}
				for last := range 256 {
					if from, ok := right[uint8(last)]; ok {
						retrieves(t, x, uint8(last), loads(from, acknowledged+n+queued)...)
					} else if l, e := x.Retrieve(uint8(last)); e != api.ErrArg || len(l) != 0 {
						t.Fatalf("Retrieve(%d) of %d loads behind %d: %v, %d", last, n, acknowledged, l, e)
					}
				}
			}
		}
	}
}

// Retrieve changes nothing, and does not depend on what is to be repeated.
func TestRetrieveDuringRepetition(t *testing.T) {
	x := opened(t, 0, 4)
	accept(t, x, load(4))
	for bit := range 2 {
		hears(t, x, fill(0, bit == 1, 127, true))
		for k := 1; k < 4; k++ {
			for last := range 4 {
				retrieves(t, x, uint8(last), loads(last+1, 5)...)
			}
			if l, e := x.Retrieve(4); e != api.ErrArg || len(l) != 0 {
				t.Errorf("the number of a load that has not been sent: %v, %d", l, e)
			}
			waits(t, x, 1, 3)
			if u := next(t, x); !bytes.Equal(u.Load, load(k)) {
				t.Errorf("%+v is sent instead of load %d", u, k)
			}
		}
	}
}

func TestRetrieveAfterFailure(t *testing.T) {
	x := failed(t)
	for range 2 {
		retrieves(t, x, 127, loads(0, 3)...)
		retrieves(t, x, 0, loads(1, 3)...)
		retrieves(t, x, 1, loads(2, 3)...)
		for _, last := range []uint8{2, 9, 126, 128, 129, 255} {
			if l, e := x.Retrieve(last); e != api.ErrArg || len(l) != 0 {
				t.Errorf("Retrieve(%d): %v, %d", last, l, e)
			}
		}
	}
}

func TestRetrieveWithoutEnd(t *testing.T) {
	for name, x := range none() {
		for last := range 256 {
			if l, e := x.Retrieve(uint8(last)); e != api.ErrNil || len(l) != 0 {
				t.Errorf("%s, %d: %v, %d", name, last, l, e)
			}
		}
	}
}

// P6.6

// direction is what goes from one end to the other one.
type direction struct {
	from, to     *basics.End
	given, taken [][]byte
	under        []units.Unit // the units that are under way
}

// pair returns the two directions between two new ends.
func pair() [2]*direction {
	a, b := basics.New(), basics.New()
	return [2]*direction{{from: a, to: b}, {from: b, to: a}}
}

// give gives the next load, if there is room for it.
func (x *direction) give() {
	l := load(len(x.given))
	if x.from.Accept(l) == api.OK {
		x.given = append(x.given, l)
	}
}

// send sends a unit, or loses it.
func (x *direction) send(t *testing.T, lost bool) {
	t.Helper()
	if u := next(t, x.from); !lost {
		x.under = append(x.under, u)
	}
}

// arrive lets the other end hear the next unit that is under way, if any.
func (x *direction) arrive(t *testing.T) {
	t.Helper()
	if len(x.under) == 0 {
		return
	}
	l, e := x.to.Hear(x.under[0])
	if e != api.OK || len(l) > 1 || !own(l) {
		t.Fatalf("Hear(%+v): %v, %d", x.under[0], l, e)
	}
	x.under = x.under[1:]
	x.taken = append(x.taken, l...)
}

// holds checks that nothing has been lost, doubled or exchanged.
func (x *direction) holds(t *testing.T) {
	t.Helper()
	if x.from.Failed() || len(x.taken) > len(x.given) || !equal(x.taken, x.given[:len(x.taken)]) {
		t.Fatalf("failed %v, accepted %v of %v", x.from.Failed(), x.taken, x.given)
	}
	retrieves(t, x.from, x.to.Last(), x.given[len(x.taken):]...)
}

// settles checks that all loads are accepted once nothing is lost any more.
func settles(t *testing.T, l [2]*direction) {
	t.Helper()
	for range 3 * (maxOpen + maxQueue) {
		for _, x := range l {
			x.send(t, false)
			for len(x.under) > 0 {
				x.arrive(t)
			}
			x.holds(t)
		}
	}
	for _, x := range l {
		if !equal(x.taken, x.given) {
			t.Fatalf("%d of %d loads are accepted", len(x.taken), len(x.given))
		}
		waits(t, x.from, 0, 0)
	}
}

func TestLosses(t *testing.T) {
	numbers := 0
	for seed := range 150 {
		r := random(seed)
		l := pair()
		lost := [2]int{r.below(100), r.below(100)} // per cent
		loads := [2]int{r.below(4), r.below(4)}
		for range 300 + r.below(500) {
			for i, x := range l {
				for range r.below(loads[i] + 1) {
					x.give()
				}
				for range r.below(4) {
					x.send(t, r.below(100) < lost[i])
				}
				for range r.below(4) {
					x.arrive(t)
				}
				x.holds(t)
				numbers = max(numbers, len(x.taken))
			}
		}
		settles(t, l)
	}
	if numbers < 400 {
		t.Errorf("at most %d loads are accepted", numbers)
	}
}

// Units stay under way for long, so that all numbers are in use.
func TestLossesOnLongWays(t *testing.T) {
	for seed := range 40 {
		r := random(seed)
		l := pair()
		delay := 20 + r.below(200)
		for tick := range 1500 {
			for _, x := range l {
				x.give()
				x.give()
				x.send(t, r.below(150) == 0)
				for len(x.under) > delay {
					x.arrive(t)
				}
				if tick%10 == 0 {
					x.holds(t)
				}
			}
		}
		settles(t, l)
	}
}

// Every pattern of losses of seven units each way.
func TestEveryLoss(t *testing.T) {
	const n = 7
	for lost := range 1 << (2 * n) {
		l := pair()
		for i := range n {
			for k, x := range l {
				if i < 3 {
					x.give()
				}
				x.send(t, lost>>(2*i+k)&1 == 1)
				x.arrive(t)
				x.holds(t)
			}
		}
		for range 12 {
			for _, x := range l {
				x.send(t, false)
				x.arrive(t)
			}
		}
		for _, x := range l {
			x.holds(t)
			if len(x.taken) != 3 {
				t.Fatalf("losses %b: %d loads are accepted", lost, len(x.taken))
			}
		}
	}
}

// R1, R3, R4

// TestArgumentsStay gives an end parts of a longer slice, which it must neither change nor keep.
func TestArgumentsStay(t *testing.T) {
	all := []byte{1, 2, 3, 4, 5, 6}
	before := bytes.Clone(all)
	x := basics.New()
	accept(t, x, all[:2], all[2:4])
	l, e := x.Hear(message(127, true, 0, true, all[:3]))
	if e != api.OK || !equal(l, [][]byte{{1, 2, 3}}) || !bytes.Equal(all, before) {
		t.Fatalf("%v is accepted, the error is %d, the loads are %v", l, e, all)
	}
	clear(all)
	if !equal(l, [][]byte{{1, 2, 3}}) {
		t.Errorf("%v is accepted behind a change of the unit", l)
	}
	retrieves(t, x, 127, []byte{1, 2}, []byte{3, 4})
	sends(t, x, "back 0+ fore 0+ load 0102", "back 0+ fore 1+ load 0304")
	clear(l[0])
	if !bytes.Equal(all, make([]byte, 6)) {
		t.Errorf("the loads are %v behind a change of the result", all)
	}
}

func TestResultsAreNew(t *testing.T) {
	x := basics.New()
	accept(t, x, load(1), load(2), load(3))
	clear(next(t, x).Load)
	clear(next(t, x).Load)
	for range 2 {
		l, _ := x.Retrieve(127)
		m, _ := x.Retrieve(127)
		for i := range l {
			clear(l[i])
		}
		clear(l)
		if !equal(m, loads(1, 4)) {
			t.Errorf("%v is retrieved behind a change of another result", m)
		}
	}
	hears(t, x, fill(127, false, 127, true))
	for range 2 {
		u := next(t, x)
		if want := load(int(u.Fore) + 1); !bytes.Equal(u.Load, want) {
			t.Errorf("%v is repeated instead of %v", u.Load, want)
		}
		clear(u.Load)
	}
	retrieves(t, x, 127, loads(1, 4)...)
}

// A load that is appended to must not reach the one behind it.
func TestResultsDoNotOverlap(t *testing.T) {
	x := opened(t, 0, 3)
	l, _ := x.Retrieve(127)
	for i := range l {
		l[i] = append(l[i], 9, 9, 9)
	}
	for i := range l {
		if want := append(load(i), 9, 9, 9); !bytes.Equal(l[i], want) {
			t.Errorf("load %d is %v", i, l[i])
		}
	}
	retrieves(t, x, 127, loads(0, 3)...)
}

func TestNilAndEmpty(t *testing.T) {
	x := basics.New()
	for _, l := range [][]byte{nil, {}} {
		if e := x.Accept(l); e != api.ErrWidth {
			t.Errorf("Accept(%v): %d", l, e)
		}
		hears(t, x, units.Unit{Back: 127, BackBit: true, Fore: 127, ForeBit: true, Load: l})
		hears(t, x, units.Unit{Kind: units.State, Status: 5, Load: l})
		if _, e := x.Hear(message(127, true, 0, true, l)); e != api.ErrWidth {
			t.Errorf("Hear of the load %v: %d", l, e)
		}
	}
}
