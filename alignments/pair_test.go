package alignments_test

import (
	"testing"

	"pointcode/alignments"
	"pointcode/api"
)

// P9.5

// pass lets an alignment hear what another one sends, if anything.
func pass(t *testing.T, from, to *alignments.Alignment) {
	t.Helper()
	if status, ok := from.Sends(); ok {
		if e := to.Hear(status); e != api.OK {
			t.Fatalf("Hear(%d): %d", status, e)
		}
	}
}

// meeting is a pair of alignments, of which the second one is started some ticks after the first one.
type meeting struct {
	times     [2]alignments.Times
	emergency [2]bool
	late      int
	first     int // which of them hears first in each tick
}

// want returns after how many ticks an end is to be ready.
func (m meeting) want(end int) int {
	if m.emergency[0] || m.emergency[1] {
		return m.times[end].Emergency + 1
	}
	return m.times[end].Normal + 1
}

// holds checks that both ends are ready in time, and not before.
func (m meeting) holds(t *testing.T) {
	t.Helper()
	ends := [2]*alignments.Alignment{made(t, m.times[0]), made(t, m.times[1])}
	ends[0].Start(m.emergency[0])
	for range m.late {
		ends[0].Tick()
	}
	if ends[0].Phase() != alignments.Seeking {
		t.Fatalf("%+v: the first end is in the phase %d", m, ends[0].Phase())
	}
	ends[1].Start(m.emergency[1])
	for tick := 1; tick <= max(m.want(0), m.want(1))+3; tick++ {
		pass(t, ends[1-m.first], ends[m.first])
		pass(t, ends[m.first], ends[1-m.first])
		for k, x := range ends {
			x.Tick()
			if is := x.Phase() == alignments.Ready; is != (tick >= m.want(k)) || x.Provings() > 1 {
				t.Fatalf("%+v: end %d is in the phase %d after %d ticks, with %d provings", m, k, x.Phase(), tick, x.Provings())
			}
		}
	}
}

// all passes to f the meetings in which each end, both or none is started for an emergency, and each end hears first.
func all(times [2]alignments.Times, late int, f func(meeting)) {
	for i := range 8 {
		f(meeting{times, [2]bool{i&1 != 0, i&2 != 0}, late, i >> 2})
	}
}

func TestMeetings(t *testing.T) {
	small := func(normal, emergency, hold int) alignments.Times {
		return alignments.Times{Seek: 4, Hold: hold, Normal: normal, Emergency: emergency, Few: 1, Fewer: 1, Most: 1}
	}
	for a := 1; a <= 5; a++ {
		for b := 1; b <= 5; b++ {
			for c := 1; c <= 5; c++ {
				for d := 1; d <= 5; d++ {
					for late := range 4 {
						times := [2]alignments.Times{small(a, b, 2), small(c, d, 2)}
						all(times, late, func(m meeting) { m.holds(t) })
					}
				}
			}
		}
	}
}

func TestRandomMeetings(t *testing.T) {
	var r random = 2
	for range 5000 {
		times := [2]alignments.Times{r.times(), r.times()}
		for k := range times {
			times[k].Hold++ // at least 2
		}
		all(times, r.below(times[0].Seek), func(m meeting) { m.holds(t) })
	}
}

func TestUsualMeetings(t *testing.T) {
	for late := range 120 {
		all([2]alignments.Times{alignments.Usual(), alignments.Usual()}, late, func(m meeting) { m.holds(t) })
	}
}

func TestSilence(t *testing.T) {
	for seek := 1; seek <= 200; seek++ {
		for _, start := range []string{"S", "E"} {
			times := alignments.Usual()
			times.Seek = seek
			x := behind(t, times, start)
			for k := range seek {
				is(t, "silence", x, alignments.Seeking, seek-k, 0)
				x.Tick()
			}
			is(t, "the end of silence", x, alignments.Stopped, 0, 0)
		}
	}
}

// TestRest lets alignments that are ready, idle or stopped hear and count everything.
func TestRest(t *testing.T) {
	var r random = 3
	const rest = ".x012345"
	for _, text := range []string{"", "-", "S-", "E01.-", "S012-", "S01...", "E01.", "S02.", "S03", "E03", "S.....", "S0....", "S01xxxx", "E01xx", "S013"} {
		for range 50 {
			x := behind(t, example, text)
			before := look(x)
			for range 100 {
				if e := do(x, rest[r.below(len(rest))]); e != api.OK || look(x) != before {
					t.Fatalf("%s: %d, %+v, not %+v", text, e, look(x), before)
				}
			}
			switch e := x.Start(false); {
			case before.phase == alignments.Ready:
				if e != api.ErrState || look(x) != before {
					t.Fatalf("%s: Start returns %d, %+v", text, e, look(x))
				}
			case e != api.OK || x.Phase() != alignments.Seeking:
				t.Fatalf("%s: Start returns %d in the phase %d", text, e, x.Phase())
			}
			x.Stop()
			is(t, text, x, alignments.Idle, 0, x.Provings())
		}
	}
}
