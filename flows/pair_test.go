package flows_test

import (
	"strings"
	"testing"

	"pointcode/api"
	"pointcode/flows"
)

// P10.6

// congestion is one of an end, of which another one hears.
type congestion struct {
	near, far flows.Times // those of the congested end and of the other one
	ticks     int         // how long it lasts
	before    int         // for how many ticks loads have waited at the other end when it begins, or after how many they begin to wait, as a negative number
	silent    bool        // whether the other end hears nothing where no status is sent
}

// holds checks that the other end fails if and only if the congestion lasts too long.
func (c congestion) holds(t *testing.T) {
	t.Helper()
	near, far := made(t, c.near), made(t, c.far)
	for range c.before {
		far.Open(true, false)
		far.Tick()
	}
	near.Congest(true)
	check := func(ticks int) bool {
		failed := far.Failed()
		if failed != (ticks >= c.far.Most) {
			t.Fatalf("%+v: failed is %t after %d ticks", c, failed, ticks)
		}
		return failed
	}
	for n := range c.ticks {
		check(n)
		if n >= -c.before {
			far.Open(true, false)
		}
		if status, is := near.Sends(); is || !c.silent {
			far.Hear(status, is)
		}
		near.Tick()
		far.Tick()
	}
	near.Congest(false)
	failed := check(c.ticks)
	if !failed && far.Open(true, true) != api.OK {
		t.Fatalf("%+v: the acknowledgement is not taken", c)
	}
	for range min(c.far.Most, c.far.Wait-1) {
		far.Tick()
	}
	if far.Failed() != failed {
		t.Fatalf("%+v: failed is %t after the acknowledgement", c, far.Failed())
	}
}

func TestCongestions(t *testing.T) {
	for again := 1; again <= 4; again++ {
		for wait := again + 1; wait <= again+3; wait++ {
			for most := 1; most <= 9; most++ {
				for ticks := range most + 4 {
					for before := -ticks; before < wait; before++ {
						for _, silent := range []bool{false, true} {
							near := flows.Times{Again: again, Most: 1, Wait: 1}
							far := flows.Times{Again: 7, Most: most, Wait: wait}
							congestion{near, far, ticks, before, silent}.holds(t)
						}
					}
				}
			}
		}
	}
}

func TestUsualCongestions(t *testing.T) {
	for ticks := range 80 {
		for before := -ticks; before < 20; before++ {
			congestion{flows.Usual(), flows.Usual(), ticks, before, false}.holds(t)
		}
	}
}

// TestRareBusy lets loads wait for a Busy that comes too late, or just in time.
func TestRareBusy(t *testing.T) {
	for again := 1; again <= 6; again++ {
		for wait := 1; wait <= 6; wait++ {
			near, far := made(t, flows.Times{Again: again, Most: 1, Wait: 1}), made(t, flows.Times{Again: 1, Most: 100, Wait: wait})
			near.Congest(true)
			far.Open(true, false)
			for range 50 {
				far.Hear(near.Sends())
				near.Tick()
				far.Tick()
			}
			if far.Failed() != (wait <= again) {
				t.Errorf("Again %d, Wait %d: failed is %t", again, wait, far.Failed())
			}
		}
	}
}

// TestExample follows the chapter's example.
func TestExample(t *testing.T) {
	shows(t, example, "C......", "Ba -a Ba -a Ba -a Ba")
	x := behind(t, example, "w")
	near := behind(t, example, "C")
	for n := 1; n <= 3; n++ {
		x.Hear(near.Sends())
		near.Tick()
		x.Tick()
		if x.Failed() != (n == 3) {
			t.Errorf("failed is %t after %d ticks", x.Failed(), n)
		}
	}
	for n := range 3 {
		y := behind(t, example, "w5"+strings.Repeat(".", n)+"W....")
		if y.Failed() {
			t.Errorf("an acknowledgement after %d ticks: failed before the fifth tick", n)
		}
		y.Tick()
		if !y.Failed() {
			t.Errorf("an acknowledgement after %d ticks: not failed with the fifth tick", n)
		}
	}
}
