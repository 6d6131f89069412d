package cyclics_test

import (
	"bytes"
	"math"
	"slices"
	"testing"

	"pointcode/api"
	"pointcode/cyclics"
	"pointcode/units"
)

// P7.1

func TestNew(t *testing.T) {
	x, y := made(t, 5, 50), made(t, 5, 50)
	if x == y {
		t.Fatal("New does not return a new end")
	}
	waits(t, x, 0, 0)
	if x.Failed() || x.Last() != 127 {
		t.Errorf("failed %v, last %d", x.Failed(), x.Last())
	}
	for last := range 256 {
		want := api.ErrArg
		if last == 127 {
			want = api.OK
		}
		if l, e := x.Retrieve(uint8(last)); e != want || len(l) != 0 {
			t.Errorf("Retrieve(%d): %v, %d", last, l, e)
		}
	}
	texts(t, x, "back 127+ fore 127+ fill", "back 127+ fore 127+ fill")
	accept(t, x, load(1))
	texts(t, x, "back 127+ fore 0+ load 0100")
	hears(t, x, message(127, 0, load(2)), load(2))
	waits(t, x, 0, 1)
	waits(t, y, 0, 0)
	texts(t, y, "back 127+ fore 127+ fill")
}

func TestNewOfEveryLimit(t *testing.T) {
	far := []int{math.MinInt, math.MinInt32, -65536, -256, math.MaxInt32, math.MaxInt, 1 << 16, 1<<32 + 1, 128, 255, 256, 257, 65535, 65536, 65537}
	check := func(loads, octets int) {
		x, e := cyclics.New(loads, octets)
		right := 1 <= loads && loads <= maxLoads && 1 <= octets && octets <= maxOctets
		if right && (x == nil || e != api.OK) || !right && (x != nil || e != api.ErrArg) {
			t.Errorf("New(%d, %d): %v, %d", loads, octets, x, e)
		}
	}
	for _, octets := range append([]int{-1, 0, 1, 2, 100, 65534}, far...) {
		for loads := -3; loads < 140; loads++ {
			check(loads, octets)
		}
		for _, loads := range far {
			check(loads, octets)
		}
	}
	for octets := -300; octets < 67000; octets++ {
		check(1, octets)
	}
}

func TestAccept(t *testing.T) {
	x := made(t, maxLoads, maxOctets)
	for k := range maxQueue {
		accept(t, x, load(k))
		waits(t, x, k+1, 0)
	}
	retrieves(t, x, 127, loads(0, maxQueue)...)
	for k := range maxQueue {
		sends(t, x, k)
	}
}

func TestAcceptLengths(t *testing.T) {
	for n := range 600 {
		x := made(t, 1, 1)
		l := bytes.Repeat([]byte{7}, n)
		want, queued := api.OK, 1
		if n < 2 || n > maxLoad {
			want, queued = api.ErrWidth, 0
		}
		if e := x.Accept(l); e != want {
			t.Errorf("a load of %d octets: %d, want %d", n, e, want)
		}
		waits(t, x, queued, 0)
		if u := next(t, x); want == api.OK && !bytes.Equal(u.Load, l) || want != api.OK && u.Kind != units.Fill {
			t.Errorf("a load of %d octets is sent as %+v", n, u)
		}
	}
}

func TestAcceptInFullQueue(t *testing.T) {
	x := opened(t, 0, 3)
	for k := 3; k < 3+maxQueue; k++ {
		accept(t, x, load(k))
	}
	before := snapshot(x)
	for _, y := range []struct {
		l    []byte
		want api.Errno
	}{
		{load(0), api.ErrFull},
		{make([]byte, maxLoad), api.ErrFull},
		{nil, api.ErrWidth}, // which is named first
		{[]byte{}, api.ErrWidth},
		{make([]byte, 1), api.ErrWidth},
		{make([]byte, maxLoad+1), api.ErrWidth},
	} {
		if e := x.Accept(y.l); e != y.want {
			t.Errorf("Accept of %d octets: %d, want %d", len(y.l), e, y.want)
		}
		if snapshot(x) != before {
			t.Fatalf("Accept of %d octets changes the end", len(y.l))
		}
	}
	next(t, x)
	accept(t, x, load(67))
	if e := x.Accept(load(0)); e != api.ErrFull {
		t.Errorf("full again: %d", e)
	}
	retrieves(t, x, 127, loads(0, 68)...)
}

func TestAcceptErrors(t *testing.T) {
	for _, l := range [][]byte{nil, {}, {1}, {1, 2}, make([]byte, maxLoad+1)} {
		for name, x := range none() {
			if e := x.Accept(l); e != api.ErrNil {
				t.Errorf("%s, %d octets: %d", name, len(l), e)
			}
		}
		x := failed(t)
		before := snapshot(x)
		if e := x.Accept(l); e != api.ErrState || snapshot(x) != before {
			t.Errorf("failed, %d octets: %d", len(l), e)
		}
	}
	x := given(t, 9, 100, maxQueue)
	x.Hear(fill(0, 127))
	x.Hear(fill(0, 127))
	if e := x.Accept(load(0)); e != api.ErrState || !x.Failed() {
		t.Errorf("failed with a full queue: %d", e)
	}
}

// P7.2

// TestNextExamples follows the examples of the chapter.
func TestNextExamples(t *testing.T) {
	x := made(t, 2, 100)
	accept(t, x, []byte{1, 1}, []byte{2, 2}, []byte{3, 3})
	texts(t, x, "back 127+ fore 0+ load 0101", "back 127+ fore 1+ load 0202", "back 127+ fore 0+ load 0101", "back 127+ fore 1+ load 0202", "back 127+ fore 0+ load 0101")
	hears(t, x, fill(0, 127))
	texts(t, x, "back 127+ fore 1+ load 0202", "back 127+ fore 2+ load 0303", "back 127+ fore 1+ load 0202", "back 127+ fore 2+ load 0303", "back 127+ fore 1+ load 0202")
	sends(t, given(t, 9, 4, 3), 0, 1, 0, 1, 0, 1)
}

// Without a limit in the way, all loads are sent before any is repeated.
func TestNextRepeats(t *testing.T) {
	x := given(t, 9, 100, 3)
	sends(t, x, 0, 1, 2, 0, 1, 2, 0, 1)
	waits(t, x, 0, 3)
	// A new load does not move the place: what has been repeated is not repeated again before the rest.
	accept(t, x, load(3), load(4))
	sends(t, x, 3, 4, 2, 3, 4, 0)
	accept(t, x, load(5))
	hears(t, x, fill(1, 127))
	sends(t, x, 5, 2, 3, 4, 5, 2)
	hears(t, x, fill(5, 127))
	texts(t, x, "back 127+ fore 5+ fill", "back 127+ fore 5+ fill")
	waits(t, x, 0, 0)
	accept(t, x, load(6))
	sends(t, x, 6, 6, 6)
}

// An acknowledgement moves the place with the loads behind it, but not in front of the first one.
func TestNextOfEveryPlace(t *testing.T) {
	const n = 6
	for repeats := range 2*n + 1 {
		for gone := range n + 1 {
			for _, limit := range []int{n, n + 1} { // with a forced repetition and without one
				x := given(t, limit, 1000, n)
				for range n + repeats {
					next(t, x)
				}
				hears(t, x, fill(uint8(gone+127)%128, 127))
				place := repeats
				if repeats > n {
					place -= n
				}
				k := max(place, gone) // the load at the place
				for range 2 * n {
					if gone == n {
						sends(t, x, -1)
						continue
					}
					if k == n {
						k = gone
					}
					sends(t, x, k)
					k++
				}
			}
		}
	}
}

// A forced repetition goes on to the last open load, even if the end is not limited any more.
func TestNextOfForcedRepetition(t *testing.T) {
	const n = 5
	for repeats := 1; repeats <= 2*n; repeats++ {
		for gone := 1; gone <= n; gone++ {
			x := given(t, n, 1000, n)
			for range n + repeats {
				next(t, x)
			}
			accept(t, x, load(n))
			hears(t, x, fill(uint8(gone-1), 127))
			for k := max((repeats-1)%n+1, gone); k < n; k++ {
				sends(t, x, k)
				waits(t, x, 1, n-gone)
			}
			sends(t, x, n)
			waits(t, x, 0, n-gone+1)
			if gone > 1 { // not limited: the place is at the new load, behind those that have been repeated
				sends(t, x, n)
			}
			for k := gone; k <= n; k++ {
				sends(t, x, k)
			}
		}
	}
}

// While an end stays limited, a forced repetition begins again and again.
func TestNextWhileLimited(t *testing.T) {
	x := given(t, 3, 1000, 5)
	sends(t, x, 0, 1, 2, 0, 1, 2, 0, 1, 2, 0)
	waits(t, x, 2, 3)
	hears(t, x, fill(127, 127))
	accept(t, x, load(5))
	sends(t, x, 1, 2, 0, 1, 2, 0)
	waits(t, x, 3, 3)
	// All loads are acknowledged during the repetition, which then ends.
	hears(t, x, fill(2, 127))
	sends(t, x, 3, 4, 5, 3, 4, 5, 3)
	hears(t, x, fill(5, 127))
	sends(t, x, -1, -1)
}

// A new forced repetition begins at the first load, wherever the place was.
func TestNextOfNewForcedRepetition(t *testing.T) {
	x := given(t, 4, 1000, 3)
	sends(t, x, 0, 1, 2, 0, 1)
	accept(t, x, load(3), load(4))
	sends(t, x, 3, 0, 1, 2)
	hears(t, x, fill(1, 127))
	sends(t, x, 3, 4, 4)
	accept(t, x, load(5), load(6))
	sends(t, x, 5, 2, 3, 4, 5, 2)
	waits(t, x, 1, 4)
}

// Every limit for loads lets just as many be sent.
func TestNextOfEveryLoadLimit(t *testing.T) {
	for limit := 1; limit <= maxLoads; limit++ {
		x := made(t, limit, maxOctets)
		for k := range limit {
			accept(t, x, load(k))
			sends(t, x, k)
		}
		accept(t, x, load(limit), load(limit+1))
		for range 2 {
			for k := range limit {
				sends(t, x, k)
			}
		}
		waits(t, x, 2, limit)
		// The repetition has to go on for one place, at which it ends.
		hears(t, x, fill(0, 127))
		sends(t, x, limit)
		sends(t, x, 1)
		waits(t, x, 1, limit)
	}
}

// An end is limited from its limit for octets on, which the last load may exceed.
func TestNextOfEveryOctetLimit(t *testing.T) {
	for _, width := range []int{2, 3, 5, 16, 272, maxLoad} {
		for limit := 1; limit <= 4*width+3; limit++ {
			x := made(t, maxLoads, limit)
			for k := range 7 {
				accept(t, x, bytes.Repeat([]byte{byte(k)}, width))
			}
			n := min(7, (limit+width-1)/width)
			for k := range n {
				if u := next(t, x); int(u.Fore) != k || len(u.Load) != width {
					t.Fatalf("limit %d: %+v is sent instead of load %d", limit, u, k)
				}
			}
			for i := range 3 * n {
				if u := next(t, x); int(u.Fore) != i%n || !bytes.Equal(u.Load, bytes.Repeat([]byte{byte(i % n)}, width)) {
					t.Fatalf("limit %d: %+v is repeated in place %d of %d", limit, u, i, n)
				}
			}
			waits(t, x, 7-n, n)
		}
	}
}

// The octets of loads that have been acknowledged, or not been sent, do not count.
func TestNextOfOctetsOfOpenLoads(t *testing.T) {
	x := made(t, 9, 20)
	width := []int{10, 9, 2, 18, 2, 2}
	for k, n := range width {
		accept(t, x, bytes.Repeat([]byte{byte(k)}, n))
	}
	numbers := func(want ...uint8) {
		t.Helper()
		for i, k := range want {
			if u := next(t, x); u.Fore != k || len(u.Load) != width[k] {
				t.Fatalf("unit %d is %+v, want load %d", i, u, k)
			}
		}
	}
	numbers(0, 1, 2, 0, 1, 2, 0)
	hears(t, x, fill(0, 127))
	numbers(1, 2, 3, 1, 2, 3, 1, 2, 3)
	hears(t, x, fill(1, 127)) // 20 octets are left
	numbers(2, 3, 2, 3)
	hears(t, x, fill(2, 127))
	numbers(4, 3, 4)
	waits(t, x, 1, 2)
}

// The greatest limit for octets is not reached by 127 loads of the greatest length; it takes the one for loads.
func TestNextOfLongLoads(t *testing.T) {
	x := made(t, maxLoads, maxOctets)
	for k := range maxLoads {
		accept(t, x, bytes.Repeat([]byte{byte(k)}, maxLoad))
		if u := next(t, x); int(u.Fore) != k || len(u.Load) != maxLoad {
			t.Fatalf("%+v is sent instead of load %d", u, k)
		}
	}
	accept(t, x, load(5))
	waits(t, x, 1, maxLoads)
	for range 2 {
		for k := range maxLoads {
			if u := next(t, x); int(u.Fore) != k || u.Load[0] != byte(k) || len(u.Load) != maxLoad {
				t.Fatalf("%+v is sent instead of load %d", u, k)
			}
		}
	}
	waits(t, x, 1, maxLoads)
}

func TestNextNumbers(t *testing.T) {
	x := made(t, maxLoads, maxOctets)
	for k := range 600 {
		accept(t, x, load(k))
		sends(t, x, k)
		if k%5 == 4 {
			sends(t, x, k-4, k-3, k-2, k-1, k, k-4)
			hears(t, x, fill(uint8(k%128), 127))
			texts(t, x, units.Text(fill(127, uint8(k%128))))
		}
	}
}

func TestNextOfManyOpenLoads(t *testing.T) {
	x := opened(t, 100, 227)
	accept(t, x, load(227), load(228))
	waits(t, x, 2, maxLoads)
	for range 2 {
		for k := 100; k < 227; k++ {
			sends(t, x, k)
		}
	}
	waits(t, x, 2, maxLoads)
	hears(t, x, fill(100, 127))
	sends(t, x, 227)
	for k := 101; k < 228; k++ {
		sends(t, x, k)
	}
	waits(t, x, 1, maxLoads)
	hears(t, x, fill(227%128, 127))
	waits(t, x, 1, 0)
	sends(t, x, 228)
}

// The accepted number is acknowledged by every unit.
func TestNextAcknowledges(t *testing.T) {
	x := given(t, 1, 100, 2)
	texts(t, x, "back 127+ fore 0+ load 0000")
	hears(t, x, message(127, 0, load(9)), load(9))
	texts(t, x, "back 0+ fore 0+ load 0000")
	hears(t, x, message(0, 1, load(9)), load(9))
	texts(t, x, "back 1+ fore 1+ load 0100")
	hears(t, x, message(1, 5, load(9)))
	texts(t, x, "back 1+ fore 1+ fill")
	hears(t, x, message(1, 2, load(9)), load(9))
	texts(t, x, "back 2+ fore 1+ fill")
}

func TestNextErrors(t *testing.T) {
	for name, x := range none() {
		if u, e := x.Next(); e != api.ErrNil || !units.Same(u, units.Unit{}) {
			t.Errorf("%s: %+v, %d", name, u, e)
		}
	}
	x := failed(t)
	before := snapshot(x)
	for range 3 {
		if u, e := x.Next(); e != api.ErrState || !units.Same(u, units.Unit{}) || snapshot(x) != before {
			t.Errorf("failed: %+v, %d", u, e)
		}
	}
}

// P7.3

// Every number Back for every number of open loads is abnormal or acknowledges as many as it says.
func TestHearOfEveryBack(t *testing.T) {
	for _, acknowledged := range []int{0, 1, 60, 127, 128, 129, 200} {
		for _, n := range []int{0, 1, 2, 63, 64, 126, 127} {
			for back := range 128 {
				x := opened(t, acknowledged, acknowledged+n)
				hears(t, x, fill(uint8(back), 127))
				gone := (back - acknowledged + 1 + 256) % 128
				if gone > n {
					gone = 0
					hears(t, x, fill(uint8((acknowledged+127)%128), 127))
				}
				waits(t, x, 0, n-gone)
				retrieves(t, x, uint8((acknowledged+gone+127)%128), loads(acknowledged+gone, acknowledged+n)...)
			}
		}
	}
}

// An abnormal unit has no other effect.
func TestHearOfAbnormalUnits(t *testing.T) {
	for _, u := range []units.Unit{fill(2, 127), fill(126, 5), message(2, 0, load(9)), message(100, 0, load(9)), message(126, 7, load(9))} {
		x := given(t, 2, 100, 3)
		sends(t, x, 0, 1, 0)
		before := snapshot(x)
		hears(t, x, u)
		if snapshot(x) != before {
			t.Errorf("%+v changes the end", u)
		}
		texts(t, x, "back 127+ fore 1+ load 0100")
		hears(t, x, message(127, 0, load(8)), load(8))
		texts(t, x, "back 0+ fore 0+ load 0000")
	}
}

// Only a Load whose number follows the accepted one is accepted, whatever its bits are.
func TestHearOfEveryFore(t *testing.T) {
	for _, n := range []int{0, 1, 2, 127, 128, 129, 300} {
		for fore := range 128 {
			for kind := range 8 {
				u := units.Unit{Back: 127, BackBit: kind&1 == 0, Fore: uint8(fore), ForeBit: kind&2 == 0}
				if kind&4 == 0 {
					u.Kind, u.Load = units.Load, load(7)
				}
				last := (n + 127) % 128
				var want [][]byte
				if u.Kind == units.Load && fore == n%128 {
					want, last = [][]byte{load(7)}, fore
				}
				x := advanced(t, n)
				hears(t, x, u, want...)
				if x.Last() != uint8(last) {
					t.Fatalf("%+v behind %d loads: last %d, want %d", u, n, x.Last(), last)
				}
				texts(t, x, units.Text(fill(uint8(last), 127)))
			}
		}
	}
}

func TestHearOfLoads(t *testing.T) {
	x := made(t, 9, 100)
	hears(t, x, message(127, 0, load(0)), load(0))
	hears(t, x, message(127, 0, load(0)))
	hears(t, x, message(127, 2, load(2)))
	hears(t, x, fill(127, 1))
	if x.Last() != 0 {
		t.Errorf("last %d", x.Last())
	}
	big := bytes.Repeat([]byte{5}, maxLoad)
	hears(t, x, message(127, 1, big), big)
	hears(t, x, message(127, 0, load(0)))
	hears(t, x, message(127, 2, load(2)), load(2))
	if x.Last() != 2 {
		t.Errorf("last %d", x.Last())
	}
}

// One unit acknowledges and brings a load, with or without the bits, which have no meaning here.
func TestHearOfAll(t *testing.T) {
	for bits := range 4 {
		x := given(t, 9, 100, 4)
		sends(t, x, 0, 1, 2, 3, 0)
		u := message(1, 0, load(77))
		u.BackBit, u.ForeBit = bits&1 == 0, bits&2 == 0
		hears(t, x, u, load(77))
		waits(t, x, 0, 2)
		texts(t, x, "back 0+ fore 2+ load 0200", "back 0+ fore 3+ load 0300")
		hears(t, x, message(3, 2, load(78)))
		texts(t, x, "back 0+ fore 3+ fill")
	}
}

// A State changes nothing, nor is it one of the last two units.
func TestHearOfStates(t *testing.T) {
	for status := range uint8(6) {
		x := given(t, 3, 100, 4)
		sends(t, x, 0, 1, 2, 0)
		hears(t, x, fill(99, 127))
		before := snapshot(x)
		for back := range uint8(128) {
			for _, u := range []units.Unit{state(status, back, 0), state(status, 0, back)} {
				hears(t, x, u)
				u.BackBit, u.ForeBit = true, true
				hears(t, x, u)
			}
		}
		if snapshot(x) != before {
			t.Errorf("states %d change the end", status)
		}
		sends(t, x, 1, 2, 0, 1)
		hears(t, x, fill(127, 127))
		hears(t, x, state(status, 99, 9))
		if _, e := x.Hear(fill(99, 127)); e != api.ErrState || !x.Failed() {
			t.Errorf("behind an abnormal unit, states %d and a unit, an abnormal one: %d", status, e)
		}
	}
}

// invalid contains units with their errors.
var invalid = []struct {
	u units.Unit
	e api.Errno
}{
	{units.Unit{Back: 128}, api.ErrArg},
	{units.Unit{Back: 255}, api.ErrArg},
	{units.Unit{Fore: 128}, api.ErrArg},
	{units.Unit{Kind: 3}, api.ErrArg},
	{units.Unit{Status: 1}, api.ErrArg},
	{units.Unit{Kind: units.State, Status: 6}, api.ErrArg},
	{units.Unit{Kind: units.Load, Status: 1, Load: load(1)}, api.ErrArg},
	{units.Unit{Back: 1, Kind: units.Load, Fore: 128, Load: []byte{1}}, api.ErrArg},
	{units.Unit{Back: 1, Kind: units.Load}, api.ErrWidth},
	{units.Unit{Back: 1, Kind: units.Load, Load: []byte{}}, api.ErrWidth},
	{units.Unit{Back: 1, Kind: units.Load, Load: []byte{1}}, api.ErrWidth},
	{units.Unit{Back: 1, Kind: units.Load, Load: make([]byte, maxLoad+1)}, api.ErrWidth},
	{units.Unit{Back: 1, Load: []byte{1, 2}}, api.ErrWidth},
	{units.Unit{Back: 1, Kind: units.State, Load: []byte{1, 2}}, api.ErrWidth},
	{units.Unit{Back: 99, Load: []byte{1, 2}}, api.ErrWidth},
}

// An invalid unit changes nothing, nor is it one of the last two units.
func TestHearOfInvalidUnits(t *testing.T) {
	for _, y := range invalid {
		x := opened(t, 0, 3)
		before := snapshot(x)
		for range 4 {
			if l, e := x.Hear(y.u); e != y.e || len(l) != 0 || snapshot(x) != before {
				t.Errorf("Hear(%+v): %v, %d, want %d", y.u, l, e, y.e)
			}
		}
		sends(t, x, 0, 1)
		hears(t, x, fill(99, 127))
		for range 2 {
			if _, e := x.Hear(y.u); e != y.e || x.Failed() {
				t.Errorf("Hear(%+v) behind an abnormal unit: %d, want %d", y.u, e, y.e)
			}
		}
		if _, e := x.Hear(fill(99, 127)); e != api.ErrState || !x.Failed() {
			t.Errorf("two abnormal units, between them %+v: %d", y.u, e)
		}
		if l, e := x.Hear(y.u); e != api.ErrState || len(l) != 0 {
			t.Errorf("Hear(%+v) after a failure: %v, %d", y.u, l, e)
		}
		for name, x := range none() {
			if l, e := x.Hear(y.u); e != api.ErrNil || len(l) != 0 {
				t.Errorf("Hear(%+v) of a %s End: %v, %d", y.u, name, l, e)
			}
		}
	}
}

// Every short list of abnormal, right, State and invalid units makes an end fail when two of three units in a row are abnormal.
func TestHearOfEveryFailure(t *testing.T) {
	kinds := []units.Unit{fill(9, 127), message(9, 0, load(1)), fill(127, 127), state(1, 9, 0), {Kind: 7}}
	all := [][]int{nil}
	for range 6 {
		var longer [][]int
		for _, list := range all {
			for k := range kinds {
				longer = append(longer, append(slices.Clone(list), k))
			}
		}
		all = longer
	}
	for _, list := range all {
		x := given(t, 3, 100, 1)
		var heard []bool
		failed := false
		for i, k := range list {
			want := api.OK
			if k == 4 {
				want = api.ErrArg
			} else if k != 3 {
				failed = failed || k < 2 && slices.Contains(heard[max(0, len(heard)-2):], true)
				heard = append(heard, k < 2)
			}
			if failed {
				want = api.ErrState
			}
			if l, e := x.Hear(kinds[k]); e != want || len(l) != 0 || x.Failed() != failed {
				t.Fatalf("unit %d of %v: %v, %d, want %d; failed %v, want %v", i, list, l, e, want, x.Failed(), failed)
			}
		}
	}
}

func TestHearAfterFailure(t *testing.T) {
	x := failed(t)
	before := snapshot(x)
	for _, u := range []units.Unit{fill(127, 127), fill(1, 9), message(127, 0, load(1)), state(1, 0, 0)} {
		if l, e := x.Hear(u); e != api.ErrState || len(l) != 0 || snapshot(x) != before {
			t.Errorf("Hear(%+v): %v, %d", u, l, e)
		}
	}
	for name, x := range none() {
		for _, u := range []units.Unit{{}, fill(127, 127), message(127, 0, load(1)), state(1, 0, 0)} {
			if l, e := x.Hear(u); e != api.ErrNil || len(l) != 0 {
				t.Errorf("Hear(%+v) of a %s End: %v, %d", u, name, l, e)
			}
		}
	}
}

// P7.4

func TestFailedLastWaiting(t *testing.T) {
	x := given(t, 9, 100, 3)
	waits(t, x, 3, 0)
	next(t, x)
	next(t, x)
	waits(t, x, 1, 2)
	hears(t, x, message(0, 0, load(5)), load(5))
	waits(t, x, 1, 1)
	if x.Last() != 0 || x.Failed() {
		t.Errorf("last %d, failed %v", x.Last(), x.Failed())
	}
	x.Hear(fill(9, 0))
	if x.Failed() {
		t.Error("one abnormal unit makes the end fail")
	}
	x.Hear(fill(9, 0))
	waits(t, x, 1, 1)
	if x.Last() != 0 || !x.Failed() {
		t.Errorf("after the failure: last %d, failed %v", x.Last(), x.Failed())
	}
}

func TestFailedLastWaitingWithoutEnd(t *testing.T) {
	for name, x := range none() {
		x.Accept(load(1))
		x.Next()
		x.Hear(message(0, 1, load(1)))
		x.Hear(fill(9, 1))
		x.Hear(fill(9, 1))
		if a, b := x.Waiting(); a != 0 || b != 0 || x.Failed() || x.Last() != 0 {
			t.Errorf("%s: %d and %d loads, failed %v, last %d", name, a, b, x.Failed(), x.Last())
		}
	}
}

// An end whose numbers are all 0 is no zero End.
func TestEndLikeZero(t *testing.T) {
	x := opened(t, 0, 1)
	hears(t, x, message(0, 0, load(1)), load(1))
	texts(t, x, "back 0+ fore 0+ fill")
	waits(t, x, 0, 0)
	retrieves(t, x, 0)
	accept(t, x, load(2))
	hears(t, x, message(0, 1, load(3)), load(3))
	texts(t, x, "back 1+ fore 1+ load 0200")
}

// P7.5

func TestRetrieve(t *testing.T) {
	for _, acknowledged := range []int{0, 1, 100, 127, 128, 129, 250} {
		for _, n := range []int{0, 1, 2, 20, 126, 127} {
			for _, queued := range []int{0, 1, maxQueue} {
				x := opened(t, acknowledged, acknowledged+n)
				for k := range queued {
					accept(t, x, load(acknowledged+n+k))
				}
				right := map[uint8]int{}
				for k := range n + 1 {
					right[uint8((acknowledged+k+127)%128)] = acknowledged + k
				}
				for last := range 256 {
					if from, ok := right[uint8(last)]; ok {
						retrieves(t, x, uint8(last), loads(from, acknowledged+n+queued)...)
					} else if l, e := x.Retrieve(uint8(last)); e != api.ErrArg || len(l) != 0 {
						t.Fatalf("Retrieve(%d) of %d loads behind %d: %v, %d", last, n, acknowledged, l, e)
					}
				}
			}
		}
	}
}

// Retrieve changes nothing, and does not depend on the place.
func TestRetrieveDuringRepetition(t *testing.T) {
	for _, limit := range []int{3, 9} {
		x := given(t, limit, 100, 4)
		sends(t, x, 0, 1, 2)
		hears(t, x, fill(0, 127))
		hears(t, x, fill(0, 127))
		sends(t, x, 3)
		accept(t, x, load(4), load(5))
		queued := 2
		if limit == 9 {
			sends(t, x, 4, 5)
			queued = 0
		}
		for i := range 9 {
			for last := range 3 {
				retrieves(t, x, uint8(last), loads(last+1, 6)...)
			}
			if l, e := x.Retrieve(6); e != api.ErrArg || len(l) != 0 {
				t.Errorf("the number of a load that has not been sent: %v, %d", l, e)
			}
			waits(t, x, queued, 5-queued)
			sends(t, x, 1+i%(5-queued))
		}
	}
}

func TestRetrieveAfterFailure(t *testing.T) {
	x := failed(t)
	for range 2 {
		retrieves(t, x, 127, loads(0, 3)...)
		retrieves(t, x, 0, loads(1, 3)...)
		retrieves(t, x, 1, loads(2, 3)...)
		for _, last := range []uint8{2, 9, 126, 128, 129, 255} {
			if l, e := x.Retrieve(last); e != api.ErrArg || len(l) != 0 {
				t.Errorf("Retrieve(%d): %v, %d", last, l, e)
			}
		}
	}
}

func TestRetrieveWithoutEnd(t *testing.T) {
	for name, x := range none() {
		for last := range 256 {
			if l, e := x.Retrieve(uint8(last)); e != api.ErrNil || len(l) != 0 {
				t.Errorf("%s, %d: %v, %d", name, last, l, e)
			}
		}
	}
}

// R1, R3, R4

// TestArgumentsStay gives an end parts of a longer slice, which it must neither change nor keep.
func TestArgumentsStay(t *testing.T) {
	all := []byte{1, 2, 3, 4, 5, 6}
	before := bytes.Clone(all)
	x := made(t, 9, 100)
	accept(t, x, all[:2], all[2:4])
	l, e := x.Hear(message(127, 0, all[:3]))
	if e != api.OK || !equal(l, [][]byte{{1, 2, 3}}) || !bytes.Equal(all, before) {
		t.Fatalf("%v is accepted, the error is %d, the loads are %v", l, e, all)
	}
	clear(all)
	if !equal(l, [][]byte{{1, 2, 3}}) {
		t.Errorf("%v is accepted behind a change of the unit", l)
	}
	retrieves(t, x, 127, []byte{1, 2}, []byte{3, 4})
	texts(t, x, "back 0+ fore 0+ load 0102", "back 0+ fore 1+ load 0304")
	clear(l[0])
	if !bytes.Equal(all, make([]byte, 6)) {
		t.Errorf("the loads are %v behind a change of the result", all)
	}
}

func TestResultsAreNew(t *testing.T) {
	x := given(t, 9, 100, 3)
	clear(next(t, x).Load)
	clear(next(t, x).Load)
	for range 2 {
		l, _ := x.Retrieve(127)
		m, _ := x.Retrieve(127)
		for i := range l {
			clear(l[i])
		}
		clear(l)
		if !equal(m, loads(0, 3)) {
			t.Errorf("%v is retrieved behind a change of another result", m)
		}
	}
	clear(next(t, x).Load)
	for i := range 9 {
		u := next(t, x)
		if want := load(i % 3); !bytes.Equal(u.Load, want) {
			t.Errorf("%v is repeated instead of %v", u.Load, want)
		}
		clear(u.Load)
	}
	retrieves(t, x, 127, loads(0, 3)...)
}

// A load that is appended to must not reach the one behind it.
func TestResultsDoNotOverlap(t *testing.T) {
	x := opened(t, 0, 3)
	l, _ := x.Retrieve(127)
	for i := range l {
		l[i] = append(l[i], 9, 9, 9)
	}
	for i := range l {
		if want := append(load(i), 9, 9, 9); !bytes.Equal(l[i], want) {
			t.Errorf("load %d is %v", i, l[i])
		}
	}
	retrieves(t, x, 127, loads(0, 3)...)
}

func TestNilAndEmpty(t *testing.T) {
	x := made(t, 9, 100)
	for _, l := range [][]byte{nil, {}} {
		if e := x.Accept(l); e != api.ErrWidth {
			t.Errorf("Accept(%v): %d", l, e)
		}
		hears(t, x, units.Unit{Back: 127, Fore: 127, Load: l})
		hears(t, x, units.Unit{Kind: units.State, Status: 5, Load: l})
		if _, e := x.Hear(message(127, 0, l)); e != api.ErrWidth {
			t.Errorf("Hear of the load %v: %d", l, e)
		}
	}
}
