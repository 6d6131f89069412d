package reroutes_test

import (
	"math"
	"reflect"
	"slices"
	"testing"

	"pointcode/api"
	"pointcode/changes"
	"pointcode/reroutes"
)

type (
	gate = reroutes.Gate
	item = changes.Item
)

// by returns the way to a place by a link.
func by(next api.Point, code uint8) reroutes.Way {
	return reroutes.Way{Next: next, Link: api.Link{A: 1, B: next, Code: code}}
}

// numbered returns an item whose fields all follow from its number.
func numbered(n int) item {
	label := api.Label{To: api.Point(n), From: api.Point(n + 1), Select: uint8(n % 16)}
	return item{Number: n, Message: api.Message{Service: uint8(n % 16), Network: uint8(n % 4), Priority: uint8(n % 3), Label: label, Data: []byte{byte(n), byte(n >> 8)}}}
}

// list returns the items with the given numbers.
func list(numbers ...int) []item {
	var out []item
	for _, n := range numbers {
		out = append(out, numbered(n))
	}
	return out
}

// made returns a new gate.
func made(t *testing.T, hold int) *gate {
	t.Helper()
	g, e := reroutes.New(hold)
	if g == nil || e != api.OK {
		t.Fatalf("New(%d) is %v, %d", hold, g, e)
	}
	return g
}

// used returns a gate that items have passed at a tick on a way.
func used(t *testing.T, hold, now int, w reroutes.Way) *gate {
	t.Helper()
	g := made(t, hold)
	offer(t, g, 1000)
	wantPass(t, g, now, w, 1000)
	return g
}

// released returns a gate that items have passed at a tick on a way, whose link was cut and from which nothing was missing.
func released(t *testing.T, hold, now int, w reroutes.Way) *gate {
	t.Helper()
	g := used(t, hold, now, w)
	wantError(t, "Cut", g.Cut(), api.OK)
	wantError(t, "Return", g.Return(nil), api.OK)
	return g
}

// offer offers items that must be accepted.
func offer(t *testing.T, g *gate, numbers ...int) {
	t.Helper()
	for _, n := range numbers {
		if e := g.Offer(numbered(n)); e != api.OK {
			t.Fatalf("Offer of %d is %d", n, e)
		}
	}
}

// wantItems checks that items are those with the given numbers, whole and in order.
func wantItems(t *testing.T, what string, got []item, numbers ...int) {
	t.Helper()
	if want := list(numbers...); len(got) != len(want) || len(got) > 0 && !reflect.DeepEqual(got, want) {
		t.Errorf("%s is %v, not %v", what, got, want)
	}
}

// wantPass checks what passes.
func wantPass(t *testing.T, g *gate, now int, w reroutes.Way, numbers ...int) {
	t.Helper()
	wantItems(t, "Pass", g.Pass(now, w), numbers...)
}

// wantError checks the error of an act by its name.
func wantError(t *testing.T, what string, got, want api.Errno) {
	t.Helper()
	if got != want {
		t.Errorf("%s is %d, not %d", what, got, want)
	}
}

// wantGate checks what can be seen of a gate that something has passed.
func wantGate(t *testing.T, g *gate, last reroutes.Way, waits bool, held int) {
	t.Helper()
	if w, is := g.Way(); w != last || !is || g.Waits() != waits || g.Len() != held {
		t.Errorf("the gate holds %d, waits: %t, last way: %v, %t, not %d, %t, %v", g.Len(), g.Waits(), w, is, held, waits, last)
	}
}

// wantUnused checks what can be seen of a gate that nothing has passed.
func wantUnused(t *testing.T, g *gate, held int) {
	t.Helper()
	if w, is := g.Way(); w != (reroutes.Way{}) || is || g.Waits() || g.Len() != held {
		t.Errorf("the gate holds %d, waits: %t, last way: %v, %t, not %d and no way", g.Len(), g.Waits(), w, is, held)
	}
}

// TestExample checks the example of the chapter. (P17.2 to P17.4)
func TestExample(t *testing.T) {
	prepared := func() *gate {
		g := made(t, 10)
		offer(t, g, 1, 2)
		wantPass(t, g, 5, by(7, 0), 1, 2)
		offer(t, g, 3)
		wantPass(t, g, 8, by(8, 0))
		wantPass(t, g, 15, by(8, 0), 3)
		wantError(t, "Cut", g.Cut(), api.OK)
		offer(t, g, 4)
		wantPass(t, g, 15, by(7, 0))
		wantPass(t, g, 100, by(8, 0))
		wantError(t, "Return", g.Return(list(3)), api.OK)
		return g
	}
	wantPass(t, prepared(), 15, by(8, 1), 3, 4)
	for now := 10; now < 25; now++ {
		g := prepared()
		wantPass(t, g, now, by(7, 0))
		wantPass(t, g, 25, by(7, 0), 3, 4)
	}
}

// TestNew checks the hold times, and that gates do not share anything. (P17.1)
func TestNew(t *testing.T) {
	for _, hold := range []int{-1, -2, -1000, math.MinInt + 1, math.MinInt} {
		g, e := reroutes.New(hold)
		wantError(t, "New", e, api.ErrArg)
		if g != nil {
			t.Error("a gate with the error:", g)
		}
	}
	for _, hold := range []int{0, 1, 10, 1 << 40, math.MaxInt - 1, math.MaxInt} {
		g, h := made(t, hold), made(t, hold)
		wantUnused(t, g, 0)
		offer(t, g, 1, 2)
		wantUnused(t, g, 2)
		wantUnused(t, h, 0)
		wantPass(t, g, 5, by(2, 3), 1, 2)
		wantGate(t, g, by(2, 3), false, 0)
		wantUnused(t, h, 0)
	}
}

// TestNone checks nil and zero gates. (P17.2 to P17.6)
func TestNone(t *testing.T) {
	for _, g := range []*gate{nil, {}, new(reroutes.Gate)} {
		for range 2 {
			wantUnused(t, g, 0)
			wantError(t, "Offer", g.Offer(numbered(1)), api.ErrNil)
			wantError(t, "Cut", g.Cut(), api.ErrNil)
			for _, l := range [][]item{nil, {}, list(1, 2), make([]item, api.MaxFlight+1)} {
				wantError(t, "Return", g.Return(l), api.ErrNil)
			}
			for _, now := range []int{math.MinInt, -1, 0, 1, math.MaxInt} {
				wantPass(t, g, now, reroutes.Way{})
				wantPass(t, g, now, by(2, 0))
			}
			wantItems(t, "Flush", g.Flush())
		}
	}
}

// TestOffer checks that items are held at the end, whatever they are. (P17.2)
func TestOffer(t *testing.T) {
	given := []item{{}, {Number: -7}, {Number: math.MinInt}, numbered(5), numbered(5), {Message: api.Message{Service: 255, Network: 255, Priority: 255, Data: make([]byte, 1000)}}}
	g := made(t, 3)
	for i, m := range given {
		wantError(t, "Offer", g.Offer(m), api.OK)
		wantUnused(t, g, i+1)
	}
	if got := g.Pass(0, by(2, 0)); !reflect.DeepEqual(got, given) {
		t.Errorf("Pass is %v, not %v", got, given)
	}
}

// TestOfferAnytime checks that an offer changes nothing but what is held. (P17.2)
func TestOfferAnytime(t *testing.T) {
	g := used(t, 10, 5, by(2, 0))
	offer(t, g, 1, 2)
	wantGate(t, g, by(2, 0), false, 2)
	wantPass(t, g, 14, by(3, 0))
	wantError(t, "Cut", g.Cut(), api.OK)
	offer(t, g, 3)
	wantGate(t, g, by(2, 0), true, 3)
	wantPass(t, g, 15, by(3, 0))
	wantError(t, "Return", g.Return(nil), api.OK)
	offer(t, g, 4)
	wantGate(t, g, by(2, 0), false, 4)
	wantPass(t, g, 14, by(3, 0))
	wantPass(t, g, 14, by(2, 9), 1, 2, 3, 4)
}

// fill offers items until a number of them is held.
func fill(t *testing.T, g *gate, held int) {
	t.Helper()
	for n := g.Len(); n < held; n++ {
		offer(t, g, n)
	}
}

// TestFull checks the limit of held items. (P17.2)
func TestFull(t *testing.T) {
	g := made(t, 10)
	fill(t, g, api.MaxFlight)
	for range 2 {
		wantError(t, "Offer", g.Offer(numbered(1)), api.ErrFull)
		wantUnused(t, g, api.MaxFlight)
	}
	l := g.Pass(5, by(2, 0))
	if len(l) != api.MaxFlight {
		t.Fatal("Pass:", len(l))
	}
	for i, m := range l {
		if m.Number != i {
			t.Fatal("Pass:", m.Number, "at", i)
		}
	}
	wantError(t, "Cut", g.Cut(), api.OK)
	fill(t, g, api.MaxFlight)
	wantError(t, "Offer while waiting", g.Offer(numbered(1)), api.ErrFull)
	wantGate(t, g, by(2, 0), true, api.MaxFlight)
	if l := g.Flush(); len(l) != api.MaxFlight {
		t.Fatal("Flush:", len(l))
	}
	offer(t, g, 1)
	wantGate(t, g, by(2, 0), true, 1)
}

// TestFirst checks that every way is free at every tick as long as nothing has passed. (P17.3)
func TestFirst(t *testing.T) {
	for _, hold := range []int{0, 10, math.MaxInt} {
		for _, now := range []int{math.MinInt, -1, 0, 1, 9, math.MaxInt} {
			for _, w := range []reroutes.Way{{}, by(2, 0), {Next: 65535, Link: api.Link{A: 9, B: 3, Code: 255}}} {
				g := made(t, hold)
				offer(t, g, 1, 2, 3)
				wantPass(t, g, now, w, 1, 2, 3)
				wantGate(t, g, w, false, 0)
			}
		}
	}
}

// TestLastWay checks that the last way is free at every tick, and only with the same place and link. (P17.3)
func TestLastWay(t *testing.T) {
	for _, now := range []int{math.MinInt, -1, 0, 4, 5, 6, 14, 15, math.MaxInt} {
		g := used(t, 10, 5, by(2, 0))
		offer(t, g, 1, 2)
		wantPass(t, g, now, by(2, 0), 1, 2)
		wantGate(t, g, by(2, 0), false, 0)
	}
	last := reroutes.Way{Next: 2, Link: api.Link{A: 1, B: 2, Code: 3}}
	for _, w := range []reroutes.Way{
		{},
		{Next: 3, Link: api.Link{A: 1, B: 2, Code: 3}},
		{Next: 1, Link: api.Link{A: 1, B: 2, Code: 3}},
		{Next: 2, Link: api.Link{A: 0, B: 2, Code: 3}},
		{Next: 2, Link: api.Link{A: 1, B: 3, Code: 3}},
		{Next: 2, Link: api.Link{A: 1, B: 2, Code: 4}},
		{Next: 2, Link: api.Link{A: 2, B: 1, Code: 3}},
		{Next: 2},
	} {
		g := used(t, 10, 5, last)
		offer(t, g, 1)
		wantPass(t, g, 14, w)
		wantGate(t, g, last, false, 1)
		wantPass(t, g, 15, w, 1)
		wantGate(t, g, w, false, 0)
	}
}

// TestHold checks from which tick on another way is free, also at the ends of the range of int. (P17.3)
func TestHold(t *testing.T) {
	const least, most = math.MinInt, math.MaxInt
	for _, c := range []struct {
		last, hold, now int
		is              bool
	}{
		{5, 10, 14, false}, {5, 10, 15, true}, {5, 10, 16, true}, {5, 10, most, true}, {5, 10, 5, false}, {5, 10, 4, false}, {5, 10, least, false},
		{5, 0, 4, false}, {5, 0, 5, true}, {5, 0, 6, true}, {5, 1, 5, false}, {5, 1, 6, true},
		{0, 0, -1, false}, {0, 0, 0, true}, {-20, 5, -16, false}, {-20, 5, -15, true}, {-2, 5, 2, false}, {-2, 5, 3, true},
		{0, most, most - 1, false}, {0, most, most, true}, {1, most, most - 1, false}, {1, most, most, true}, {most, most, most - 1, false}, {most, most, most, true},
		{-1, most, most - 2, false}, {-1, most, most - 1, true}, {most - 1, 1, most - 1, false}, {most - 1, 1, most, true}, {most - 1, 2, most - 1, false}, {most - 1, 2, most, true},
		{most, 0, most - 1, false}, {most, 0, most, true}, {most, 1, most - 1, false}, {most, 1, least, false}, {most, 1, 0, false}, {most, 1, most, true},
		{least, 0, least, true}, {least, 1, least, false}, {least, 1, least + 1, true}, {least, most, -2, false}, {least, most, -1, true}, {least + 1, most, -1, false}, {least + 1, most, 0, true},
	} {
		for _, w := range []reroutes.Way{by(3, 0), by(2, 1)} {
			g := used(t, c.hold, c.last, by(2, 0))
			offer(t, g, 1, 2)
			if !c.is {
				wantPass(t, g, c.now, w)
				wantGate(t, g, by(2, 0), false, 2)
				continue
			}
			wantPass(t, g, c.now, w, 1, 2)
			wantGate(t, g, w, false, 0)
		}
	}
}

// TestLastTick checks that each passing, and nothing else, makes its tick the last one. (P17.3)
func TestLastTick(t *testing.T) {
	g := used(t, 10, 5, by(2, 0))
	offer(t, g, 1)
	wantPass(t, g, 12, by(2, 0), 1)
	offer(t, g, 2)
	wantPass(t, g, 21, by(3, 0))
	wantPass(t, g, 3, by(2, 0), 2) // ticks may go back
	offer(t, g, 3)
	wantPass(t, g, 12, by(3, 0))
	wantPass(t, g, 13, by(3, 0), 3)
	offer(t, g, 4)
	wantPass(t, g, 22, by(2, 0))
	wantPass(t, g, 23, by(2, 0), 4)
}

// TestPassNothing checks that a gate that holds nothing does not change, whichever way is free. (P17.3)
func TestPassNothing(t *testing.T) {
	g := made(t, 10)
	wantPass(t, g, 0, by(3, 0))
	wantUnused(t, g, 0)
	offer(t, g, 1)
	wantPass(t, g, 1, by(2, 0), 1)
	wantPass(t, g, 8, by(2, 0)) // would make 8 the last tick
	wantPass(t, g, 11, by(3, 0))
	wantGate(t, g, by(2, 0), false, 0)
	offer(t, g, 2)
	wantPass(t, g, 10, by(3, 0))
	wantPass(t, g, 11, by(3, 0), 2)

	g = released(t, 10, 5, by(2, 0))
	wantPass(t, g, 6, by(2, 1)) // would end the release
	wantPass(t, g, 6, by(2, 0))
	wantPass(t, g, 90, by(3, 0))
	wantGate(t, g, by(2, 0), false, 0)
	offer(t, g, 1)
	wantPass(t, g, 6, by(3, 0))
	wantPass(t, g, 6, by(2, 2), 1)
}

// TestCut checks that a gate waits from Cut to Return. (P17.4)
func TestCut(t *testing.T) {
	g := made(t, 10)
	for range 2 {
		wantError(t, "Cut of an unused gate", g.Cut(), api.ErrState)
		wantUnused(t, g, 0)
	}
	offer(t, g, 1, 2)
	wantError(t, "Cut of an unused gate that holds items", g.Cut(), api.ErrState)
	wantUnused(t, g, 2)
	wantPass(t, g, 5, by(2, 0), 1, 2)
	offer(t, g, 3)
	wantError(t, "Cut", g.Cut(), api.OK)
	for range 2 {
		wantGate(t, g, by(2, 0), true, 1)
		for _, now := range []int{math.MinInt, 5, 6, 15, math.MaxInt} {
			for _, w := range []reroutes.Way{by(2, 0), by(2, 1), by(3, 0), {}} {
				wantPass(t, g, now, w)
			}
		}
		wantError(t, "Cut while waiting", g.Cut(), api.ErrState)
	}
	wantError(t, "Return", g.Return(nil), api.OK)
	wantPass(t, g, 5, by(2, 0), 3)
}

// TestCutEmptied checks that nothing has passed a gate whose items were flushed. (P17.4, P17.5)
func TestCutEmptied(t *testing.T) {
	g := made(t, 10)
	offer(t, g, 1)
	wantItems(t, "Flush", g.Flush(), 1)
	wantPass(t, g, 3, by(2, 0))
	wantError(t, "Cut", g.Cut(), api.ErrState)
	wantError(t, "Return", g.Return(nil), api.ErrState)
	wantUnused(t, g, 0)
}

// TestReturn checks the order of the returned and the held items. (P17.4)
func TestReturn(t *testing.T) {
	for returned := range 4 {
		for held := range 4 {
			g := used(t, 10, 5, by(2, 0))
			wantError(t, "Cut", g.Cut(), api.OK)
			var first, second []int
			for i := range returned {
				first = append(first, 100+i)
			}
			for i := range held {
				second = append(second, i)
			}
			offer(t, g, second...)
			wantError(t, "Return", g.Return(list(first...)), api.OK)
			wantGate(t, g, by(2, 0), false, returned+held)
			offer(t, g, 50)
			wantPass(t, g, 6, by(2, 3), append(append(first, second...), 50)...)
		}
	}
}

// TestReturnErrors checks when nothing may be returned. (P17.4)
func TestReturnErrors(t *testing.T) {
	most := make([]item, api.MaxFlight+1)
	g := made(t, 10)
	offer(t, g, 1)
	for _, l := range [][]item{nil, {}, list(2), most} {
		wantError(t, "Return to an unused gate", g.Return(l), api.ErrState)
		wantUnused(t, g, 1)
	}
	wantPass(t, g, 5, by(2, 0), 1)
	offer(t, g, 2)
	for _, l := range [][]item{nil, {}, list(2), most} {
		wantError(t, "Return to a gate that does not wait", g.Return(l), api.ErrState)
		wantGate(t, g, by(2, 0), false, 1)
	}
	wantPass(t, g, 14, by(2, 1))
	wantError(t, "Cut", g.Cut(), api.OK)
	wantError(t, "Return", g.Return(nil), api.OK)
	for _, l := range [][]item{nil, {}, list(2), most} {
		wantError(t, "Return to a released gate", g.Return(l), api.ErrState)
		wantGate(t, g, by(2, 0), false, 1)
	}
	wantPass(t, g, 14, by(2, 1), 2)
}

// TestReturnFull checks the limit of held items with those that are returned. (P17.4)
func TestReturnFull(t *testing.T) {
	most := make([]item, api.MaxFlight+1)
	for _, held := range []int{0, 1, 7, api.MaxFlight - 1, api.MaxFlight} {
		g := used(t, 10, 5, by(2, 0))
		wantError(t, "Cut", g.Cut(), api.OK)
		fill(t, g, held)
		room := api.MaxFlight - held
		for _, returned := range []int{room + 1, api.MaxFlight + 1} {
			wantError(t, "Return of too much", g.Return(most[:returned]), api.ErrFull)
			wantGate(t, g, by(2, 0), true, held)
			wantPass(t, g, 99, by(2, 0))
		}
		wantError(t, "Return", g.Return(most[:room]), api.OK)
		wantGate(t, g, by(2, 0), false, api.MaxFlight)
		wantError(t, "Offer", g.Offer(numbered(1)), api.ErrFull)
		l := g.Pass(5, by(2, 1))
		if len(l) != api.MaxFlight {
			t.Fatal("Pass:", len(l))
		}
		for i := range held {
			if l[room+i].Number != i {
				t.Fatal("the held item", i, "is", l[room+i])
			}
		}
	}
}

// TestReleased checks which ways are free after Return, until items pass. (P17.3, P17.4)
func TestReleased(t *testing.T) {
	for _, now := range []int{math.MinInt, 4, 5, 6, 14, 15, math.MaxInt} {
		for _, w := range []reroutes.Way{by(2, 0), by(2, 1), {Next: 2}, {Next: 2, Link: api.Link{A: 7, B: 9}}} {
			g := released(t, 10, 5, by(2, 0))
			offer(t, g, 1)
			wantPass(t, g, now, w, 1)
			wantGate(t, g, w, false, 0)
		}
		for _, w := range []reroutes.Way{{}, by(3, 0), {Next: 3, Link: by(2, 0).Link}} {
			g := released(t, 10, 5, by(2, 0))
			offer(t, g, 1)
			if now < 15 {
				wantPass(t, g, now, w)
				wantGate(t, g, by(2, 0), false, 1)
				continue
			}
			wantPass(t, g, now, w, 1)
			wantGate(t, g, w, false, 0)
		}
	}
}

// TestReleaseEnds checks that a passing ends the release, on whichever way. (P17.3, P17.4)
func TestReleaseEnds(t *testing.T) {
	for _, w := range []reroutes.Way{by(2, 0), by(2, 1), by(3, 0)} {
		g := released(t, 10, 5, by(2, 0))
		offer(t, g, 1)
		wantPass(t, g, 15, w, 1)
		offer(t, g, 2)
		other := reroutes.Way{Next: w.Next, Link: api.Link{Code: 9}}
		wantPass(t, g, 24, other)
		wantError(t, "Return", g.Return(nil), api.ErrState)
		wantPass(t, g, 25, other, 2)
	}
}

// TestCutAgain checks that a gate can be cut again, before and after something has passed. (P17.4)
func TestCutAgain(t *testing.T) {
	g := released(t, 10, 5, by(2, 0))
	offer(t, g, 3)
	wantError(t, "Cut of a released gate", g.Cut(), api.OK)
	wantGate(t, g, by(2, 0), true, 1)
	wantPass(t, g, 50, by(2, 1))
	wantError(t, "Return", g.Return(list(1, 2)), api.OK)
	wantPass(t, g, 6, by(2, 1), 1, 2, 3)
	for round := range 4 {
		wantError(t, "Cut", g.Cut(), api.OK)
		offer(t, g, 4)
		wantError(t, "Return", g.Return(list(3)), api.OK)
		wantPass(t, g, 6, by(2, uint8(round)), 3, 4)
	}
}

// TestFlush checks that items are removed once, and nothing else changes. (P17.5)
func TestFlush(t *testing.T) {
	g := made(t, 10)
	wantItems(t, "Flush of nothing", g.Flush())
	offer(t, g, 1, 2, 3)
	wantItems(t, "Flush", g.Flush(), 1, 2, 3)
	wantItems(t, "Flush again", g.Flush())
	wantUnused(t, g, 0)
	offer(t, g, 4)
	wantPass(t, g, 5, by(2, 0), 4)
	offer(t, g, 5, 6)
	wantItems(t, "Flush", g.Flush(), 5, 6)
	wantGate(t, g, by(2, 0), false, 0)
	offer(t, g, 7)
	wantPass(t, g, 14, by(3, 0))
	wantError(t, "Cut", g.Cut(), api.OK)
	wantItems(t, "Flush while waiting", g.Flush(), 7)
	wantGate(t, g, by(2, 0), true, 0)
	offer(t, g, 8)
	wantPass(t, g, 15, by(2, 0))
	wantError(t, "Return", g.Return(list(9, 10)), api.OK)
	wantItems(t, "Flush of returned items", g.Flush(), 9, 10, 8)
	wantGate(t, g, by(2, 0), false, 0)
	offer(t, g, 11)
	wantPass(t, g, 14, by(3, 0))
	wantPass(t, g, 6, by(2, 1), 11)
}

// patterned returns an item with some contents in an array that is longer.
func patterned(n int) item {
	m := numbered(n)
	m.Message.Data = make([]byte, n, n+3)
	for i := range m.Message.Data {
		m.Message.Data[i] = byte(n)
	}
	return m
}

// spoil changes memory, also behind its length.
func spoil(l []byte) {
	for i := range l[:cap(l)] {
		l[:cap(l)][i] = 255
	}
}

// wantPatterned checks that items are those with the given numbers, in memory that ends with them.
func wantPatterned(t *testing.T, what string, got []item, numbers ...int) {
	t.Helper()
	if len(got) != len(numbers) || cap(got) != len(got) {
		t.Fatalf("%s has the length %d and the capacity %d, not %d", what, len(got), cap(got), len(numbers))
	}
	for i, n := range numbers {
		want := patterned(n)
		if data := got[i].Message.Data; !slices.Equal(data, want.Message.Data) || cap(data) != len(data) {
			t.Fatalf("%s contains %v with the capacity %d, not %v", what, data, cap(data), want.Message.Data)
		}
		got[i].Message.Data, want.Message.Data = nil, nil
		if !reflect.DeepEqual(got[i], want) {
			t.Fatalf("%s contains %v, not %v", what, got[i], want)
		}
	}
}

// TestMemory checks that a gate keeps no memory of its arguments, and shares none with its results. (R1, R4)
func TestMemory(t *testing.T) {
	g := made(t, 10)
	give := func(n int) {
		m := patterned(n)
		wantError(t, "Offer", g.Offer(m), api.OK)
		if want := patterned(n); !reflect.DeepEqual(m, want) {
			t.Fatal("Offer has changed its argument")
		}
		spoil(m.Message.Data)
	}
	for n := range 5 {
		give(n)
	}
	first := g.Pass(5, by(2, 0))
	for n := range 3 {
		give(n + 10)
	}
	wantError(t, "Cut", g.Cut(), api.OK)
	shared := patterned(21)
	l := []item{patterned(20), shared, shared, patterned(22)}[:3]
	wantError(t, "Return", g.Return(l), api.OK)
	if all := l[:4]; !reflect.DeepEqual(all, []item{patterned(20), patterned(21), patterned(21), patterned(22)}) {
		t.Fatal("Return has changed its argument")
	}
	for _, m := range l[:4] {
		spoil(m.Message.Data)
	}
	clear(l[:4])
	give(13)
	second := g.Pass(6, by(2, 1))
	spoil(second[1].Message.Data) // the two items with the same contents must not share them
	second[1] = patterned(21)
	second[1].Message.Data = slices.Clip(second[1].Message.Data)
	wantPatterned(t, "Pass", first, 0, 1, 2, 3, 4)
	give(30)
	wantPatterned(t, "Pass", second, 20, 21, 21, 10, 11, 12, 13)
	third := g.Flush()
	give(31)
	wantPatterned(t, "Flush", third, 30)
	wantPatterned(t, "Flush", g.Flush(), 31)
}

// TestEmptySlices checks that a nil and an empty slice are the same. (R3)
func TestEmptySlices(t *testing.T) {
	for _, l := range [][]item{nil, {}, make([]item, 0, 5)} {
		g := used(t, 10, 5, by(2, 0))
		wantError(t, "Cut", g.Cut(), api.OK)
		for _, data := range [][]byte{nil, {}, make([]byte, 0, 5)} {
			wantError(t, "Offer", g.Offer(item{Message: api.Message{Data: data}}), api.OK)
		}
		wantError(t, "Return", g.Return(l), api.OK)
		wantGate(t, g, by(2, 0), false, 3)
		out := g.Pass(6, by(2, 1))
		if len(out) != 3 || len(out[0].Message.Data)+len(out[1].Message.Data)+len(out[2].Message.Data) > 0 {
			t.Error("Pass:", out)
		}
	}
}

// TestFields checks that a gate has no exported fields. (R5)
func TestFields(t *testing.T) {
	of := reflect.TypeFor[reroutes.Gate]()
	for i := range of.NumField() {
		if of.Field(i).IsExported() {
			t.Error("exported:", of.Field(i).Name)
		}
	}
}
