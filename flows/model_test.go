package flows_test

import (
	"testing"

	"pointcode/api"
	"pointcode/flows"
)

// example are the times of the chapter's example.
var example = flows.Times{Again: 2, Most: 3, Wait: 5}

// acts are what can be done with a flow control: C and c begin and end the congestion, O and o the outage; w, W, n and N tell about loads (w and W: they are waiting, n and N: none are, W and N: behind an acknowledgement); . is a tick, - a unit without a status, and a digit a status that is heard.
const acts = "CcOowWnN.-012345"

// do performs an act.
func do(x *flows.Flow, act byte) api.Errno {
	switch act {
	case 'C', 'c':
		return x.Congest(act == 'C')
	case 'O', 'o':
		return x.Outage(act == 'O')
	case 'w', 'W':
		return x.Open(true, act == 'W')
	case 'n', 'N':
		return x.Open(false, act == 'N')
	case '.':
		return x.Tick()
	case '-':
		return x.Hear(0, false)
	}
	return x.Hear(act-'0', true)
}

// view is all that a flow control tells.
type view struct {
	status                  uint8
	sends                   bool
	acknowledgements, loads bool
	failed                  bool
}

// look returns what a flow control tells.
func look(x *flows.Flow) view {
	v := view{failed: x.Failed()}
	v.status, v.sends = x.Sends()
	v.acknowledgements, v.loads = x.Held()
	return v
}

// made returns a new flow control.
func made(t *testing.T, times flows.Times) *flows.Flow {
	t.Helper()
	x, e := flows.New(times)
	if e != api.OK || x == nil {
		t.Fatalf("New(%+v): %v, %d", times, x, e)
	}
	return x
}

// behind returns a new flow control behind acts without an error.
func behind(t *testing.T, times flows.Times, text string) *flows.Flow {
	t.Helper()
	x := made(t, times)
	for i := range len(text) {
		if e := do(x, text[i]); e != api.OK {
			t.Fatalf("%s: %c returns %d", text, text[i], e)
		}
	}
	return x
}

// model is a flow control that is written from the definitions.
type model struct {
	times     flows.Times
	congested bool
	since     int // the ticks since the congestion began
	outage    bool
	busy      bool
	busyLeft  int
	away      bool // the other end has an outage
	waiting   bool
	waitLeft  int
	failed    bool
}

// begin lets loads wait with all their ticks.
func (m *model) begin() { m.waiting, m.waitLeft = true, m.times.Wait }

// hear handles a status.
func (m *model) hear(status byte) {
	switch status {
	case '5':
		if !m.busy {
			m.busy, m.busyLeft = true, m.times.Most
		}
		if m.waiting {
			m.begin()
		}
	case '4':
		m.away = true
	case '-':
		m.away = false
	default:
		m.failed = true
	}
}

// tick begins the next tick.
func (m *model) tick() {
	if m.congested {
		m.since++
	}
	if m.busy {
		m.busyLeft--
	}
	if m.waiting && !m.outage && !m.away {
		m.waitLeft--
	}
	m.failed = m.busy && m.busyLeft == 0 || m.waiting && m.waitLeft == 0
}

// do performs an act.
func (m *model) do(act byte) api.Errno {
	if m.failed {
		return api.ErrState
	}
	switch act {
	case 'C':
		if !m.congested {
			m.congested, m.since = true, 0
		}
	case 'c':
		m.congested, m.since = false, 0
	case 'O', 'o':
		m.outage = act == 'O'
	case 'w':
		if !m.waiting {
			m.begin()
		}
	case 'W':
		m.busy, m.busyLeft = false, 0
		m.begin()
	case 'n':
		m.waiting, m.waitLeft = false, 0
	case 'N':
		m.busy, m.busyLeft = false, 0
		m.waiting, m.waitLeft = false, 0
	case '.':
		m.tick()
	default:
		m.hear(act)
	}
	return api.OK
}

// look returns what the model tells.
func (m *model) look() view {
	v := view{acknowledgements: m.congested, loads: m.outage || m.away, failed: m.failed}
	switch {
	case m.failed:
	case m.outage:
		v.status, v.sends = 4, true
	case m.congested && m.since%m.times.Again == 0:
		v.status, v.sends = 5, true
	}
	return v
}

// agree performs acts at a new flow control and compares it with the model behind each of them.
func agree(t *testing.T, times flows.Times, text string) {
	t.Helper()
	x, m := made(t, times), model{times: times}
	for i := range len(text) {
		e, want := do(x, text[i]), m.do(text[i])
		if e != want || look(x) != m.look() {
			t.Fatalf("%+v: %s: %+v and %d, not %+v and %d", times, text[:i+1], look(x), e, m.look(), want)
		}
	}
}

// random is a generator of numbers that is the same in every run.
type random uint32

// below returns a number from 0 to n-1.
func (r *random) below(n int) int {
	*r = *r*1664525 + 1013904223
	return int(*r>>8) % n
}

// times returns valid times with small numbers.
func (r *random) times() flows.Times {
	return flows.Times{Again: 1 + r.below(5), Most: 1 + r.below(9), Wait: 1 + r.below(9)}
}

// text returns n acts, among which those of the weights are more likely, and those that let the flow control fail at once are rare.
func (r *random) text(n int, weights string) string {
	all := acts
	if r.below(20) > 0 {
		all = "CcOowWnN.-45"
	}
	all += weights
	out := make([]byte, n)
	for i := range out {
		out[i] = all[r.below(len(all))]
	}
	return string(out)
}

// small returns times with small numbers, in which now one is the greater one and now another.
func small() []flows.Times {
	return []flows.Times{
		example,
		{Again: 1, Most: 1, Wait: 1},
		{Again: 1, Most: 4, Wait: 2},
		{Again: 3, Most: 2, Wait: 4},
		{Again: 4, Most: 5, Wait: 3},
		{Again: 2, Most: 1, Wait: 3},
		{Again: 2, Most: 3, Wait: 1},
	}
}

// TestStates performs every act in every state that the model can reach with a short congestion. The acts behind it show what the flow control does not tell at once.
func TestStates(t *testing.T) {
	for _, times := range small() {
		begin := model{times: times}
		found := map[model]bool{begin: true}
		type way struct {
			model
			text string
		}
		ways := []way{{begin, ""}}
		for len(ways) > 0 {
			w := ways[0]
			ways = ways[1:]
			for i := range len(acts) {
				text := w.text + acts[i:i+1]
				for _, shown := range []string{"o-........", "O........", "o-n........", "o-5w..5..5..", "o-CCCC....", "cC......"} {
					agree(t, times, text+shown)
				}
				m := w.model
				m.do(acts[i])
				if !found[m] && m.since <= times.Again+1 {
					found[m] = true
					ways = append(ways, way{m, text})
				}
			}
		}
		if len(found) < 50 {
			t.Errorf("%+v: only %d states", times, len(found))
		}
	}
}

// TestShortTexts performs all texts of some acts.
func TestShortTexts(t *testing.T) {
	const n = 4
	for _, times := range small() {
		all := []string{""}
		for range n {
			var longer []string
			for _, text := range all {
				for i := range len(acts) {
					longer = append(longer, text+acts[i:i+1])
				}
			}
			all = longer
		}
		for _, text := range all {
			agree(t, times, text+"...")
		}
	}
}

// TestRandomTexts performs long texts, of which some rarely let the flow control fail.
func TestRandomTexts(t *testing.T) {
	var r random = 1
	for range 10000 {
		weights := []string{"", "......", "NNNNNN", "WWWW5555", "CCc...", "4-Oo....w", "55..W..", "NW.NW.5.4.-"}[r.below(8)]
		agree(t, r.times(), r.text(200, weights))
	}
}
