package links_test

import (
	"fmt"
	"slices"
	"strings"
	"testing"

	"pointcode/alignments"
	"pointcode/api"
	"pointcode/basics"
	"pointcode/cyclics"
	"pointcode/flows"
	"pointcode/frames"
	"pointcode/lines"
	"pointcode/links"
	"pointcode/monitors"
	"pointcode/sums"
	"pointcode/units"
)

// acts are what can be done with a link: . is a tick; the others are small letters for end 0 and capital ones for end 1: a starts it, e does so for an emergency, s stops it; l gives it a load and m a long one; c and d begin and end its congestion, o and p its outage; t takes its loads.
const acts = ".aeslmcdoptAESLMCDOPT"

// actor is a link or its model.
type actor interface {
	Start(end int, emergency bool) api.Errno
	Stop(end int) api.Errno
	Send(end int, load []byte) api.Errno
	Congest(end int, on bool) api.Errno
	Outage(end int, on bool) api.Errno
	Tick() api.Errno
	Now() int
	Take(end int) [][]byte
	State(end int) links.State
	Last(end int) uint8
	Retrieve(end int, last uint8) ([][]byte, api.Errno)
	Wrong(end int) int
}

// load returns a load, the one with the number 256 and a greater one being those of the numbers from 0 on.
func load(number int) []byte {
	number %= 256
	out := []byte{byte(number)}
	for i := range 1 + number*number%7 {
		out = append(out, byte(255-i*number))
	}
	return out
}

// long returns a long load. A burst with twice as many bits could not be replaced by any other one, as a line has no more than 1024 disturbances.
func long(number int) []byte {
	out := make([]byte, 200)
	for i := range out {
		out[i] = byte(number + i*i)
	}
	return out
}

// do performs an act, which is the one with a number, and returns its error and the loads that it takes.
func do(x actor, act byte, number int) (e api.Errno, loads [][]byte) {
	end := 0
	if 'A' <= act && act <= 'Z' {
		end = 1
		act += 'a' - 'A'
	}
	switch act {
	case '.':
		e = x.Tick()
	case 'a', 'e':
		e = x.Start(end, act == 'e')
	case 's':
		e = x.Stop(end)
	case 'l':
		e = x.Send(end, load(number))
	case 'm':
		e = x.Send(end, long(number))
	case 'c', 'd':
		e = x.Congest(end, act == 'c')
	case 'o', 'p':
		e = x.Outage(end, act == 'o')
	case 't':
		loads = x.Take(end)
	}
	return e, loads
}

// view is what a link tells.
type view struct {
	now    int
	states [2]links.State
	lasts  [2]uint8
	wrong  [2]int
	rests  string // what both ends retrieve, each load behind its length
}

// look returns what a link tells, of the numbers to retrieve those that are given, too.
func look(x actor, numbers ...uint8) view {
	v := view{now: x.Now()}
	var rests []byte
	for k := range 2 {
		v.states[k], v.lasts[k], v.wrong[k] = x.State(k), x.Last(k), x.Wrong(k)
		for _, n := range append(numbers, x.Last(1-k), 127) {
			loads, e := x.Retrieve(k, n)
			rests = append(rests, byte(e), byte(len(loads)))
			for _, load := range loads {
				rests = append(append(rests, byte(len(load)), byte(len(load)>>8)), load...)
			}
		}
	}
	v.rests = string(rests)
	return v
}

// made returns a new link.
func made(t testing.TB, o links.Options) *links.Link {
	t.Helper()
	x, e := links.New(o)
	if e != api.OK || x == nil {
		t.Fatalf("New: %v, %d", x, e)
	}
	return x
}

// perform performs acts without an error.
func perform(t testing.TB, x actor, text string) {
	t.Helper()
	for i := range len(text) {
		if e, _ := do(x, text[i], i); e != api.OK {
			t.Fatalf("%s: %c returns %d", text, text[i], e)
		}
	}
}

// behind returns a new link behind acts without an error.
func behind(t testing.TB, o links.Options, text string) *links.Link {
	t.Helper()
	x := made(t, o)
	perform(t, x, text)
	return x
}

// model is a link that is written from the definitions.
type model struct {
	options links.Options
	now     int
	sent    [2][]burst
	ends    [2]*side
}

// burst is what an end has sent in a tick, before its disturbances.
type burst struct {
	tick int
	bits []byte
}

// side is an end of a model. One of basic and cyclic is nil, which tells nothing.
type side struct {
	state     links.State
	scanner   *frames.Scanner
	alignment *alignments.Alignment
	flow      *flows.Flow
	monitor   monitors.Monitor
	basic     *basics.End
	cyclic    *cyclics.End
	patience  int
	loads     [][]byte
	wrong     int
}

// heard is an arriving unit: nil if it is wrong.
type heard *units.Unit

// modelOf returns a model with valid options.
func modelOf(o links.Options) *model {
	return &model{options: o, ends: [2]*side{{}, {}}}
}

func (m *model) Start(end int, emergency bool) api.Errno {
	old := m.ends[end]
	if old.state != links.Off && old.state != links.Out {
		return api.ErrState
	}
	s := &side{state: links.Aligning, patience: m.options.Patience, loads: old.loads, wrong: old.wrong}
	s.scanner = frames.New()
	s.alignment, _ = alignments.New(m.options.Align)
	s.alignment.Start(emergency)
	s.flow, _ = flows.New(m.options.Flow)
	s.monitor, _ = monitors.NewRate(m.options.Limit, m.options.Every)
	if m.options.Cyclic {
		s.cyclic, _ = cyclics.New(m.options.Loads, m.options.Octets)
	} else {
		s.basic = basics.New()
	}
	m.ends[end] = s
	return api.OK
}

func (m *model) Stop(end int) api.Errno {
	if m.ends[end].state == links.Off {
		return api.ErrState
	}
	m.ends[end].state = links.Out
	return api.OK
}

func (m *model) Send(end int, load []byte) api.Errno {
	s := m.ends[end]
	if s.state == links.Off || s.state == links.Out {
		return api.ErrState
	}
	if m.options.Cyclic {
		return s.cyclic.Accept(load)
	}
	return s.basic.Accept(load)
}

func (m *model) Congest(end int, on bool) api.Errno {
	if m.ends[end].state != links.Service {
		return api.ErrState
	}
	return m.ends[end].flow.Congest(on)
}

func (m *model) Outage(end int, on bool) api.Errno {
	if m.ends[end].state != links.Service {
		return api.ErrState
	}
	return m.ends[end].flow.Outage(on)
}

func (m *model) Now() int { return m.now }

func (m *model) Take(end int) [][]byte {
	out := m.ends[end].loads
	m.ends[end].loads = nil
	return out
}

func (m *model) State(end int) links.State { return m.ends[end].state }

func (m *model) Last(end int) uint8 {
	// That of the one that is nil is 0.
	return m.ends[end].basic.Last() + m.ends[end].cyclic.Last()
}

func (m *model) Retrieve(end int, last uint8) ([][]byte, api.Errno) {
	switch s := m.ends[end]; {
	case s.state == links.Off:
		return nil, api.ErrState
	case m.options.Cyclic:
		return s.cyclic.Retrieve(last)
	default:
		return s.basic.Retrieve(last)
	}
}

func (m *model) Wrong(end int) int { return m.ends[end].wrong }

func (m *model) Tick() api.Errno {
	m.now++
	var arrived [2][]heard
	for k, s := range m.ends {
		bits := m.arriving(1 - k)
		if s.state != links.Off && s.state != links.Out {
			arrived[k] = s.read(bits)
		}
	}
	for k, s := range m.ends {
		for _, u := range arrived[k] {
			if u == nil {
				s.wrong++
			}
			if s.state != links.Out {
				s.hear(u)
				s.settle()
			}
		}
	}
	for _, s := range m.ends {
		s.time()
		s.settle()
	}
	for k, s := range m.ends {
		if u, ok := s.sends(m.options.Cyclic); ok {
			octets, _ := units.Encode(u)
			bits, _ := frames.Frame(sums.Add(octets))
			m.sent[k] = append(m.sent[k], burst{m.now, bits})
		}
	}
	return api.OK
}

// arriving returns the bits from an end that arrive now.
func (m *model) arriving(end int) []byte {
	var out []byte
	for number, b := range m.sent[end] {
		if b.tick+m.options.Delay == m.now {
			out = append(out, disturbed(number, b.bits, m.options.Noise[end])...)
		}
	}
	return out
}

// disturbed returns what remains of a burst.
func disturbed(number int, bits []byte, noise []lines.Noise) []byte {
	out := slices.Clone(bits)
	times := 1
	for _, n := range noise {
		switch {
		case n.At != number:
		case n.Kind == lines.Drop:
			return nil
		case n.Kind == lines.Twice:
			times = 2
		default:
			out[n.Bit%len(bits)] ^= 1
		}
	}
	return slices.Repeat(out, times)
}

// read returns the units in bits.
func (s *side) read(bits []byte) []heard {
	errors := s.scanner.Errors()
	contents, _ := s.scanner.Feed(bits)
	var out []heard
	for _, content := range contents {
		var u heard
		if octets, e := sums.Check(content); e == api.OK {
			if decoded, e := units.Decode(octets); e == api.OK {
				u = &decoded
			}
		}
		out = append(out, u)
	}
	for errors < s.scanner.Errors() {
		errors++
		out = append(out, nil)
	}
	return out
}

// hear handles a unit.
func (s *side) hear(u heard) {
	if s.state == links.Ready && u != nil {
		switch {
		case u.Kind != units.State:
			s.state = links.Service
		case u.Status == units.Out || u.Status == units.Stopped:
			s.state = links.Out
		}
	}
	switch {
	case s.state == links.Aligning && u == nil:
		s.alignment.Wrong()
	case s.state == links.Aligning && u.Kind == units.State:
		s.alignment.Hear(u.Status)
	case s.state == links.Service && u == nil:
		s.monitor.Count(false)
	case s.state == links.Service:
		s.monitor.Count(true)
		if u.Kind == units.State {
			s.flow.Hear(u.Status, true)
			break
		}
		s.flow.Hear(0, false)
		before := s.open()
		for _, end := range []interface {
			Hear(units.Unit) ([][]byte, api.Errno)
		}{s.basic, s.cyclic} {
			loads, _ := end.Hear(*u)
			s.loads = append(s.loads, loads...)
		}
		s.flow.Open(s.open() != 0, s.open() < before)
	}
}

// open returns how many loads have not been acknowledged.
func (s *side) open() int {
	_, b := s.basic.Waiting()
	_, c := s.cyclic.Waiting()
	return b + c
}

// settle changes the state.
func (s *side) settle() {
	if s.state == links.Off {
		return
	}
	if s.state == links.Aligning && s.alignment.Phase() == alignments.Ready {
		s.state = links.Ready
	}
	if s.alignment.Phase() == alignments.Stopped || s.monitor.Over() || s.flow.Failed() || s.basic.Failed() || s.cyclic.Failed() {
		s.state = links.Out
	}
}

// time lets the timers run.
func (s *side) time() {
	switch s.state {
	case links.Aligning:
		s.alignment.Tick()
	case links.Ready:
		s.patience--
		if s.patience == 0 {
			s.state = links.Out
		}
	case links.Service:
		s.flow.Tick()
	}
}

// sends returns the unit that the end sends, if any.
func (s *side) sends(cyclic bool) (u units.Unit, ok bool) {
	if s.state == links.Out {
		return units.Unit{Kind: units.State, Status: units.Stopped}, true
	}
	if s.state == links.Ready {
		return units.Unit{Back: 127, BackBit: true, Fore: 127, ForeBit: true}, true
	}
	status, is := s.flow.Sends()
	if s.state == links.Aligning {
		status, is = s.alignment.Sends()
	}
	if is {
		return units.Unit{Kind: units.State, Status: status}, true
	}
	acknowledgements, loads := s.flow.Held()
	if s.state != links.Service || acknowledgements || loads {
		return units.Unit{}, false
	}
	if cyclic {
		u, _ = s.cyclic.Next()
	} else {
		u, _ = s.basic.Next()
	}
	s.flow.Open(s.open() != 0, false)
	return u, true
}

// agree performs acts at a new link and compares it with the model behind each of them.
func agree(t *testing.T, o links.Options, text string) *links.Link {
	t.Helper()
	x, m := made(t, o), modelOf(o)
	for i := range len(text) {
		e, loads := do(x, text[i], i)
		wantE, wantLoads := do(m, text[i], i)
		if e != wantE || fmt.Sprint(loads) != fmt.Sprint(wantLoads) {
			t.Fatalf("%s: %d and %v, not %d and %v", text[:i+1], e, loads, wantE, wantLoads)
		}
		number := uint8(i % 7)
		if got, want := look(x, number), look(m, number); got != want {
			t.Fatalf("%s: %#v, not %#v", text[:i+1], got, want)
		}
	}
	return x
}

// quick returns options with which a link changes its states soon.
func quick(delay int) links.Options {
	return links.Options{
		Loads: 2, Octets: 40, Delay: delay,
		Align: alignments.Times{Seek: 9, Hold: 6, Normal: 3, Emergency: 2, Few: 2, Fewer: 1, Most: 2},
		Flow:  flows.Times{Again: 2, Most: 6, Wait: 7},
		Limit: 2, Every: 4, Patience: 5,
	}
}

// random is a generator of numbers that is the same in every run.
type random uint32

// below returns a number from 0 to n-1.
func (r *random) below(n int) int {
	*r = *r*1664525 + 1013904223
	return int(*r>>8) % n
}

// noise returns disturbances of the first bursts, those of one kind in the mean for every so many.
func (r *random) noise(every int, kinds ...uint8) []lines.Noise {
	var out []lines.Noise
	for at := range 150 {
		if r.below(every) == 0 {
			out = append(out, lines.Noise{At: at, Kind: kinds[r.below(len(kinds))], Bit: r.below(5000)})
		}
	}
	return out
}

// options returns options of which most numbers are small.
func (r *random) options() links.Options {
	o := quick(1 + r.below(3))
	o.Cyclic = r.below(2) == 0
	o.Loads, o.Octets = 1+r.below(5), 1+r.below(60)
	o.Align = alignments.Times{Seek: 5 + r.below(20), Hold: 2 + r.below(9), Normal: 1 + r.below(9), Emergency: 1 + r.below(5), Few: 1 + r.below(4), Fewer: 1 + r.below(2), Most: 1 + r.below(4)}
	o.Flow = flows.Times{Again: 1 + r.below(4), Most: 1 + r.below(20), Wait: 1 + r.below(20)}
	o.Limit, o.Every, o.Patience = 1+r.below(5), 1+r.below(9), 1+r.below(12)
	for k := range o.Noise {
		if every := []int{0, 4, 10, 25}[r.below(4)]; every > 0 {
			o.Noise[k] = r.noise(every, lines.Drop, lines.Flip, lines.Flip, lines.Twice)
		}
	}
	return o
}

// text returns n acts, most of which are ticks, those of the weights being more likely than the others.
func (r *random) text(n int, weights string) string {
	all := acts + weights + strings.Repeat(".", 2*(len(acts)+len(weights)))
	out := make([]byte, n)
	for i := range out {
		out[i] = all[r.below(len(all))]
	}
	return string(out)
}

// TestShortTexts performs all texts of some acts in several states, and shows behind each of them what has not shown at once.
func TestShortTexts(t *testing.T) {
	o := quick(1)
	cyclic := quick(1)
	cyclic.Cyclic = true
	disturbed := quick(2)
	disturbed.Noise[0] = []lines.Noise{{At: 9, Kind: lines.Drop}, {At: 12, Kind: lines.Twice}, {At: 14, Kind: lines.Flip, Bit: 20}, {At: 17, Kind: lines.Flip, Bit: 61}}
	disturbed.Noise[1] = []lines.Noise{{At: 8, Kind: lines.Flip, Bit: 30}, {At: 11, Kind: lines.Twice}, {At: 12, Kind: lines.Drop}}
	for _, o := range []links.Options{o, cyclic, disturbed} {
		for _, text := range []string{"", "aA..", "aA....", "eAl.....L..", "aA.......Cl.", "aA.......sl.."} {
			for i := range len(acts) {
				for j := range len(acts) {
					agree(t, o, text+acts[i:i+1]+acts[j:j+1]+".lL...tT......aA..........")
					agree(t, o, text+acts[i:i+1]+"."+acts[j:j+1]+"..lL..PpDd.tT...")
				}
			}
		}
	}
}

// TestRandomTexts performs long texts with disturbances.
func TestRandomTexts(t *testing.T) {
	var r random = 1
	for range 3000 {
		weights := []string{"aA", "aAeE" + strings.Repeat(".", 20), "aAlL" + strings.Repeat(".", 40), "aAlLtTcdCD", "aAlLoOpP", "aeAElLmM"}[r.below(6)]
		agree(t, r.options(), "aA..."+r.text(250, weights))
	}
}
