package alignments_test

import (
	"testing"

	"pointcode/alignments"
	"pointcode/api"
)

// example are the times of the chapter's example.
var example = alignments.Times{Seek: 5, Hold: 4, Normal: 3, Emergency: 1, Few: 2, Fewer: 1, Most: 2}

// acts are what can be done with an alignment: S and E start it (E for an emergency), - stops it, . is a tick, x a wrong unit, and a digit a status that is heard.
const acts = "SE-.x012345"

// do performs an act.
func do(x *alignments.Alignment, act byte) api.Errno {
	switch act {
	case 'S', 'E':
		return x.Start(act == 'E')
	case '-':
		return x.Stop()
	case '.':
		return x.Tick()
	case 'x':
		return x.Wrong()
	}
	return x.Hear(act - '0')
}

// view is all that an alignment tells.
type view struct {
	phase          alignments.Phase
	left, provings int
	status         uint8
	sends          bool
}

// look returns what an alignment tells.
func look(x *alignments.Alignment) view {
	v := view{phase: x.Phase(), left: x.Left(), provings: x.Provings()}
	v.status, v.sends = x.Sends()
	return v
}

// made returns a new alignment.
func made(t *testing.T, times alignments.Times) *alignments.Alignment {
	t.Helper()
	x, e := alignments.New(times)
	if e != api.OK || x == nil {
		t.Fatalf("New(%+v): %v, %d", times, x, e)
	}
	return x
}

// behind returns a new alignment behind acts without an error.
func behind(t *testing.T, times alignments.Times, text string) *alignments.Alignment {
	t.Helper()
	x := made(t, times)
	for i := range len(text) {
		if e := do(x, text[i]); e != api.OK {
			t.Fatalf("%s: %c returns %d", text, text[i], e)
		}
	}
	return x
}

// is checks what an alignment tells of its phase, its ticks and its provings.
func is(t *testing.T, what string, x *alignments.Alignment, phase alignments.Phase, left, provings int) {
	t.Helper()
	for range 2 { // asking changes nothing
		if x.Phase() != phase || x.Left() != left || x.Provings() != provings {
			t.Errorf("%s: phase %d, %d ticks left, %d provings; want %d, %d, %d", what, x.Phase(), x.Left(), x.Provings(), phase, left, provings)
		}
	}
}

// model is an alignment that is written from the definitions.
type model struct {
	times    alignments.Times
	phase    alignments.Phase
	left     int
	started  bool // for an emergency
	heard    bool // Emergency from the other end
	provings int
	wrong    int
}

// table returns the row of the chapter's table for an event, of which e is the end of the ticks. A is Aligned, P is Proving, F is Stopped (failed), R is Ready; ! means that it is urgent from now on, ? that it happens only if it was not, and x that a wrong unit is counted.
func table(event byte) [3]string {
	return map[byte][3]string{ // Seeking, Aligned, Proving
		'0': {"A", "", "A"},
		'1': {"A", "P", ""},
		'2': {"A!", "P!", "P!?"},
		'3': {"", "F", "F"},
		'4': {"", "P", ""},
		'5': {"", "P", ""},
		'x': {"", "", "x"},
		'e': {"F", "F", "R"},
	}[event]
}

// entry returns the entry of the table for an event in the current phase.
func (m *model) entry(event byte) string {
	switch m.phase {
	case alignments.Seeking, alignments.Aligned, alignments.Proving:
		return table(event)[m.phase-alignments.Seeking]
	}
	return ""
}

// choose returns one of two numbers, the second one if the alignment is urgent.
func (m *model) choose(usual, urgent int) int {
	if m.started || m.heard {
		return urgent
	}
	return usual
}

func (m *model) enter(phase byte) {
	switch phase {
	case 'S':
		m.phase, m.left = alignments.Seeking, m.times.Seek
	case 'A':
		m.phase, m.left = alignments.Aligned, m.times.Hold
	case 'P':
		m.phase, m.left = alignments.Proving, m.choose(m.times.Normal, m.times.Emergency)
		m.wrong = 0
		m.provings++
	case 'R':
		m.phase, m.left = alignments.Ready, 0
	case 'F':
		m.phase, m.left = alignments.Stopped, 0
	case 'I':
		m.phase, m.left = alignments.Idle, 0
	}
}

// handle handles an event of the table.
func (m *model) handle(event byte) {
	entry := m.entry(event)
	switch {
	case entry == "":
	case entry == "x":
		m.count()
	case entry == "P!?" && (m.started || m.heard):
	case len(entry) > 1:
		m.heard = true
		m.enter(entry[0])
	default:
		m.enter(entry[0])
	}
}

func (m *model) count() {
	m.wrong++
	if m.wrong < m.choose(m.times.Few, m.times.Fewer) {
		return
	}
	if m.provings < m.times.Most {
		m.enter('P')
	} else {
		m.enter('F')
	}
}

// do performs an act.
func (m *model) do(act byte) api.Errno {
	switch act {
	case 'S', 'E':
		if m.phase != alignments.Idle && m.phase != alignments.Stopped {
			return api.ErrState
		}
		*m = model{times: m.times, started: act == 'E'}
		m.enter('S')
	case '-':
		m.enter('I')
	case '.':
		if m.left > 0 {
			m.left--
			if m.left == 0 {
				m.handle('e')
			}
		}
	default:
		m.handle(act)
	}
	return api.OK
}

// look returns what the model tells.
func (m *model) look() view {
	v := view{phase: m.phase, left: m.left, provings: m.provings}
	switch m.phase {
	case alignments.Seeking:
		v.status, v.sends = 0, true
	case alignments.Aligned, alignments.Proving:
		v.status, v.sends = 1, true
		if m.started {
			v.status = 2
		}
	case alignments.Stopped:
		v.status, v.sends = 3, true
	}
	return v
}

// agree performs acts at a new alignment and compares it with the model behind each of them.
func agree(t *testing.T, times alignments.Times, text string) {
	t.Helper()
	x, m := made(t, times), model{times: times}
	for i := range len(text) {
		e, want := do(x, text[i]), m.do(text[i])
		if e != want || look(x) != m.look() {
			t.Fatalf("%+v: %s: %+v and %d, not %+v and %d", times, text[:i+1], look(x), e, m.look(), want)
		}
	}
}

// random is a generator of numbers that is the same in every run.
type random uint32

// below returns a number from 0 to n-1.
func (r *random) below(n int) int {
	*r = *r*1664525 + 1013904223
	return int(*r>>8) % n
}

// times returns valid times with small numbers.
func (r *random) times() alignments.Times {
	return alignments.Times{
		Seek: 1 + r.below(8), Hold: 1 + r.below(8), Normal: 1 + r.below(8), Emergency: 1 + r.below(8),
		Few: 1 + r.below(5), Fewer: 1 + r.below(5), Most: 1 + r.below(6),
	}
}

// text returns n acts, among which those of the weights are more likely.
func (r *random) text(n int, weights string) string {
	out := make([]byte, n)
	for i := range out {
		out[i] = (acts + weights)[r.below(len(acts)+len(weights))]
	}
	return string(out)
}

// small returns times with small numbers, in which now one limit is the greater one and now the other.
func small() []alignments.Times {
	return []alignments.Times{
		example,
		{Seek: 1, Hold: 1, Normal: 1, Emergency: 1, Few: 1, Fewer: 1, Most: 1},
		{Seek: 2, Hold: 3, Normal: 1, Emergency: 4, Few: 1, Fewer: 3, Most: 3},
		{Seek: 3, Hold: 2, Normal: 4, Emergency: 2, Few: 3, Fewer: 2, Most: 1},
		{Seek: 4, Hold: 5, Normal: 2, Emergency: 3, Few: 4, Fewer: 4, Most: 4},
	}
}

// TestStates performs every act in every state that the model can reach with few provings.
func TestStates(t *testing.T) {
	const most = 6
	for _, times := range small() {
		begin := model{times: times}
		found := map[model]bool{begin: true}
		type way struct {
			model
			text string
		}
		ways := []way{{begin, ""}}
		for len(ways) > 0 {
			w := ways[0]
			ways = ways[1:]
			for i := range len(acts) {
				text := w.text + acts[i:i+1]
				agree(t, times, text)
				m := w.model
				m.do(acts[i])
				if !found[m] && m.provings <= most {
					found[m] = true
					ways = append(ways, way{m, text})
				}
			}
		}
		if len(found) < 50 {
			t.Errorf("%+v: only %d states", times, len(found))
		}
	}
}

// TestShortTexts performs all texts of some acts behind a start.
func TestShortTexts(t *testing.T) {
	const n = 4
	for _, times := range small() {
		all := []string{"S", "E"}
		for range n {
			var longer []string
			for _, text := range all {
				for i := range len(acts) {
					longer = append(longer, text+acts[i:i+1])
				}
			}
			all = longer
		}
		for _, text := range all {
			agree(t, times, text)
		}
	}
}

// TestRandomTexts performs long texts, of which some rarely leave a phase.
func TestRandomTexts(t *testing.T) {
	var r random = 1
	for range 3000 {
		weights := []string{"", "....xx", "xxxxxx01", "01010101", "SS0011..", "EE0011..", "222..", "xx02xx11"}[r.below(8)]
		agree(t, r.times(), r.text(200, weights))
	}
}
