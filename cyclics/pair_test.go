package cyclics_test

import (
	"testing"

	"pointcode/api"
	"pointcode/cyclics"
	"pointcode/units"
)

// P7.6

// direction is what goes from one end to the other one.
type direction struct {
	from, to     *cyclics.End
	loads        int // the limits of the sending end
	octets       int
	given, taken [][]byte
	under        []units.Unit // the units that are under way
}

// pair returns the two directions between two new ends with the same limits.
func pair(t *testing.T, loads, octets int) [2]*direction {
	t.Helper()
	a, b := made(t, loads, octets), made(t, loads, octets)
	return [2]*direction{
		{from: a, to: b, loads: loads, octets: octets},
		{from: b, to: a, loads: loads, octets: octets},
	}
}

// give gives the next load, if there is room for it.
func (x *direction) give() {
	l := load(len(x.given))
	if x.from.Accept(l) == api.OK {
		x.given = append(x.given, l)
	}
}

// send sends a unit, or loses it. It checks that a limited end sends no new load.
func (x *direction) send(t *testing.T, lost bool) {
	t.Helper()
	queued, open := x.from.Waiting()
	limited := open >= x.loads || 2*open >= x.octets // a load has two octets
	u := next(t, x.from)
	if !lost {
		x.under = append(x.under, u)
	}
	if limited {
		waits(t, x.from, queued, open)
	}
}

// arrive lets the other end hear the next unit that is under way, if any.
func (x *direction) arrive(t *testing.T) {
	t.Helper()
	if len(x.under) == 0 {
		return
	}
	l, e := x.to.Hear(x.under[0])
	if e != api.OK || len(l) > 1 || !own(l) {
		t.Fatalf("Hear(%+v): %v, %d", x.under[0], l, e)
	}
	x.under = x.under[1:]
	x.taken = append(x.taken, l...)
}

// holds checks that nothing has been lost, doubled or exchanged.
func (x *direction) holds(t *testing.T) {
	t.Helper()
	if x.from.Failed() || len(x.taken) > len(x.given) || !equal(x.taken, x.given[:len(x.taken)]) {
		t.Fatalf("failed %v, accepted %v of %v", x.from.Failed(), x.taken, x.given)
	}
	retrieves(t, x.from, x.to.Last(), x.given[len(x.taken):]...)
}

// settles checks that all loads are accepted once nothing is lost any more.
func settles(t *testing.T, l [2]*direction) {
	t.Helper()
	for range 4 * (maxLoads + maxQueue) {
		for _, x := range l {
			x.send(t, false)
			for len(x.under) > 0 {
				x.arrive(t)
			}
			x.holds(t)
		}
	}
	for _, x := range l {
		if !equal(x.taken, x.given) {
			t.Fatalf("%d of %d loads are accepted", len(x.taken), len(x.given))
		}
		waits(t, x.from, 0, 0)
	}
}

// limitsOf returns limits of which now one and now the other one is low.
func limitsOf(r *random) (loads, octets int) {
	switch r.below(4) {
	case 0:
		return 1 + r.below(8), 1 + r.below(20)
	case 1:
		return 1 + r.below(40), maxOctets
	case 2:
		return maxLoads, 1 + r.below(80)
	}
	return maxLoads, maxOctets
}

func TestLosses(t *testing.T) {
	numbers := 0
	for seed := range 150 {
		r := random(seed)
		loads, octets := limitsOf(&r)
		l := pair(t, loads, octets)
		lost := [2]int{r.below(100), r.below(100)} // per cent
		gifts := [2]int{r.below(4), r.below(4)}
		for range 300 + r.below(500) {
			for i, x := range l {
				for range r.below(gifts[i] + 1) {
					x.give()
				}
				for range r.below(4) {
					x.send(t, r.below(100) < lost[i])
				}
				for range r.below(4) {
					x.arrive(t)
				}
				x.holds(t)
				numbers = max(numbers, len(x.taken))
			}
		}
		settles(t, l)
	}
	if numbers < 400 {
		t.Errorf("at most %d loads are accepted", numbers)
	}
}

// Units stay under way for long, so that all numbers are in use.
func TestLossesOnLongWays(t *testing.T) {
	for seed := range 60 {
		r := random(seed)
		loads, octets := limitsOf(&r)
		l := pair(t, loads, octets)
		delay := 20 + r.below(200)
		for tick := range 1500 {
			for _, x := range l {
				x.give()
				x.give()
				x.send(t, r.below(150) == 0)
				for len(x.under) > delay {
					x.arrive(t)
				}
				if tick%10 == 0 {
					x.holds(t)
				}
			}
		}
		settles(t, l)
	}
}

// Every pattern of losses of six units each way, without a limit in the way and with each of them.
func TestEveryLoss(t *testing.T) {
	const n = 6
	for lost := range 1 << (2 * n) {
		for _, limits := range [][2]int{{9, 100}, {2, 100}, {9, 3}, {1, 1}} {
			l := pair(t, limits[0], limits[1])
			for i := range n {
				for k, x := range l {
					if i < 3 {
						x.give()
					}
					x.send(t, lost>>(2*i+k)&1 == 1)
					x.arrive(t)
					x.holds(t)
				}
			}
			for range 16 {
				for _, x := range l {
					x.send(t, false)
					x.arrive(t)
				}
			}
			for _, x := range l {
				x.holds(t)
				if len(x.taken) != 3 {
					t.Fatalf("losses %b, limits %v: %d loads are accepted", lost, limits, len(x.taken))
				}
			}
		}
	}
}

// If the acknowledgements are lost, all numbers are in use, and the loads are repeated until one comes through.
func TestLostAcknowledgements(t *testing.T) {
	l := pair(t, maxLoads, maxOctets)
	to, back := l[0], l[1]
	for round := range 5 {
		for range 4 * maxLoads {
			to.give()
			to.send(t, false)
			to.arrive(t)
			back.send(t, true)
			to.holds(t)
		}
		if len(to.taken) != (round+1)*maxLoads {
			t.Fatalf("%d loads are accepted in round %d", len(to.taken), round)
		}
		waits(t, to.from, maxQueue, maxLoads)
		back.send(t, false)
		back.arrive(t)
		waits(t, to.from, maxQueue, 0)
	}
	settles(t, l)
}
