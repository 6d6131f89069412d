package plans

import "pointcode/api"

// Base returns the unit of all timers of a network.
func Base(p Plan) (int, api.Errno) {
	if e := Check(p); e != api.OK {
		return 0, e
	}
	return baseOf(p), api.OK
}

// baseOf returns the base of a valid plan.
func baseOf(p Plan) int {
	delay := 0
	for _, x := range p.Lines {
		delay = max(delay, x.Delay)
	}
	return 4 * len(p.Places) * (delay + p.Room + 1)
}

// Hold returns how long a place holds a flow to a destination.
func Hold(p Plan, at, to api.Point) (int, api.Errno) {
	if e := check(p, at, to); e != api.OK {
		return 0, e
	}
	own, _ := Index(p, at)
	height := heightsOf(distancesOf(p, to))[own]
	if height == noWay {
		return 0, api.ErrRoute
	}
	return (height + 1) * baseOf(p), api.OK
}

// Gap returns the distance in time between failures that keeps messages in sequence.
func Gap(p Plan) (int, api.Errno) {
	if e := Check(p); e != api.OK {
		return 0, e
	}
	return (len(p.Places) + 2) * baseOf(p), api.OK
}
