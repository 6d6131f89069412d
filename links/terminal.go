package links

import (
	"pointcode/alignments"
	"pointcode/api"
	"pointcode/basics"
	"pointcode/cyclics"
	"pointcode/flows"
	"pointcode/frames"
	"pointcode/monitors"
	"pointcode/sums"
	"pointcode/units"
)

// start is the number in front of that of the first load.
const start = 127

// terminal is what a link has at one of its ends.
type terminal struct {
	parts
	state State
	loads [][]byte // those that wait to be taken
	wrong int      // how many wrong units have arrived
}

// parts are what an end has since its last start.
type parts struct {
	correction correction
	alignment  *alignments.Alignment
	flow       *flows.Flow
	monitor    monitors.Monitor // of the units in service
	scanner    *frames.Scanner
	left       int // the ticks left in the state Ready, all of them before it
}

// correction is a method of error correction.
type correction interface {
	Accept(load []byte) api.Errno
	Next() (units.Unit, api.Errno)
	Hear(u units.Unit) ([][]byte, api.Errno)
	Failed() bool
	Last() uint8
	Retrieve(last uint8) ([][]byte, api.Errno)
	Waiting() (queued, unacknowledged int)
}

// arrival is a unit that has arrived, or one that is wrong.
type arrival struct {
	unit  units.Unit
	right bool
}

// newParts returns the parts of an end that has not begun its alignment, or the error of the options for them.
func newParts(o Options) (parts, api.Errno) {
	c, e := newCorrection(o)
	if e != api.OK {
		return parts{}, e
	}
	a, e := alignments.New(o.Align)
	if e != api.OK {
		return parts{}, e
	}
	f, e := flows.New(o.Flow)
	if e != api.OK {
		return parts{}, e
	}
	m, e := monitors.NewRate(o.Limit, o.Every)
	if e != api.OK {
		return parts{}, e
	}
	return parts{correction: c, alignment: a, flow: f, monitor: m, scanner: frames.New(), left: o.Patience}, api.OK
}

// newCorrection returns the error correction of an end.
func newCorrection(o Options) (correction, api.Errno) {
	if !o.Cyclic {
		return basics.New(), api.OK
	}
	c, e := cyclics.New(o.Loads, o.Octets)
	if e != api.OK {
		// Not c, which would be an interface that is not nil.
		return nil, e
	}
	return c, api.OK
}

// start begins the alignment, with the options of a link.
func (x *terminal) start(o Options, emergency bool) {
	x.parts, _ = newParts(o) // New has returned the error, if there is one
	x.alignment.Start(emergency)
	x.state = Aligning
}

// isActive reports whether the end reads what arrives and takes loads.
func (x *terminal) isActive() bool { return x.state != Off && x.state != Out }

// unacknowledged returns how many loads have been sent and not been acknowledged.
func (x *terminal) unacknowledged() int {
	_, n := x.correction.Waiting()
	return n
}

// change changes the state if one of the parts requires it.
func (x *terminal) change() {
	phase := x.alignment.Phase()
	switch {
	case phase == alignments.Stopped || x.monitor.Over() || x.flow.Failed() || x.correction.Failed():
		x.state = Out
	case phase == alignments.Ready && x.state == Aligning:
		x.state = Ready
	}
}

// hear handles the units in the bits that have arrived.
func (x *terminal) hear(bits []byte) {
	l := x.arrivals(bits)
	for _, a := range l {
		if !a.right {
			x.wrong++
		}
	}
	for _, a := range l {
		x.handle(a)
		x.change()
	}
}

// arrivals returns the units in bits.
func (x *terminal) arrivals(bits []byte) []arrival {
	before := x.scanner.Errors()
	contents, _ := x.scanner.Feed(bits) // what a line carries is a stream
	var out []arrival
	for _, content := range contents {
		out = append(out, read(content))
	}
	return append(out, make([]arrival, x.scanner.Errors()-before)...)
}

// read returns the unit in a content.
func read(content []byte) arrival {
	octets, e := sums.Check(content)
	if e != api.OK {
		return arrival{}
	}
	u, e := units.Decode(octets)
	return arrival{unit: u, right: e == api.OK}
}

// handle handles an arriving unit. Once the state is Out, nothing happens.
func (x *terminal) handle(a arrival) {
	switch x.state {
	case Aligning:
		x.handleAligning(a)
	case Ready:
		x.handleReady(a)
	case Service:
		x.handleService(a)
	}
}

// handleAligning handles an arriving unit in the state Aligning.
func (x *terminal) handleAligning(a arrival) {
	switch {
	case !a.right:
		x.alignment.Wrong()
	case a.unit.Kind == units.State:
		x.alignment.Hear(a.unit.Status)
	}
}

// handleReady handles an arriving unit in the state Ready.
func (x *terminal) handleReady(a arrival) {
	switch {
	case !a.right:
	case a.unit.Kind != units.State:
		x.state = Service
		x.handleService(a)
	case a.unit.Status == units.Out || a.unit.Status == units.Stopped:
		x.state = Out
	}
}

// handleService handles an arriving unit in the state Service.
func (x *terminal) handleService(a arrival) {
	x.monitor.Count(a.right)
	if !a.right {
		return
	}
	is := a.unit.Kind == units.State
	x.flow.Hear(a.unit.Status, is)
	if !is {
		x.correct(a.unit)
	}
}

// correct lets the error correction hear a unit.
func (x *terminal) correct(u units.Unit) {
	before := x.unacknowledged()
	loads, _ := x.correction.Hear(u) // if it fails, it returns none
	x.loads = append(x.loads, loads...)
	after := x.unacknowledged()
	x.flow.Open(after > 0, after < before)
}

// tick performs the timers.
func (x *terminal) tick() {
	switch x.state {
	case Aligning:
		x.alignment.Tick()
	case Ready:
		x.left--
		if x.left == 0 {
			x.state = Out
		}
	case Service:
		x.flow.Tick()
	}
	x.change()
}

// next returns the unit that the end sends, if it sends one.
func (x *terminal) next() (units.Unit, bool) {
	switch x.state {
	case Aligning:
		return stateUnit(x.alignment.Sends())
	case Ready:
		return units.Unit{Back: start, BackBit: true, Fore: start, ForeBit: true}, true
	case Service:
		return x.nextInService()
	case Out:
		return stateUnit(units.Stopped, true)
	}
	return units.Unit{}, false
}

// nextInService returns the unit that the end sends in the state Service, if it sends one.
func (x *terminal) nextInService() (units.Unit, bool) {
	if u, ok := stateUnit(x.flow.Sends()); ok {
		return u, true
	}
	if acknowledgements, loads := x.flow.Held(); acknowledgements || loads {
		return units.Unit{}, false
	}
	u, _ := x.correction.Next() // it has not failed, or the state would be Out
	x.flow.Open(x.unacknowledged() > 0, false)
	return u, true
}

// stateUnit returns the unit with a status, if there is one.
func stateUnit(status uint8, is bool) (units.Unit, bool) {
	if !is {
		return units.Unit{}, false
	}
	return units.Unit{Kind: units.State, Status: status}, true
}

// burst returns the bits of a valid unit, none of which is too short or too long for a frame.
func burst(u units.Unit) []byte {
	octets, _ := units.Encode(u)
	out, _ := frames.Frame(sums.Add(octets))
	return out
}
