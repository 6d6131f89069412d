package monitors_test

import (
	"testing"

	"pointcode/api"
	"pointcode/monitors"
)

// kind is a kind of monitor.
type kind int

const (
	rate kind = iota // limit, every
	sum              // limit
	span             // limit, size, up, down
)

// spec is a kind of monitor with its arguments.
type spec struct {
	kind kind
	l    []int
}

// create returns the monitor of a spec, or its error.
func create(s spec) (monitors.Monitor, api.Errno) {
	switch s.kind {
	case rate:
		return monitors.NewRate(s.l[0], s.l[1])
	case sum:
		return monitors.NewSum(s.l[0])
	}
	return monitors.NewSpan(s.l[0], s.l[1], s.l[2], s.l[3])
}

// made returns the monitor of a valid spec.
func made(t *testing.T, s spec) monitors.Monitor {
	t.Helper()
	m, e := create(s)
	if e != api.OK || m == nil {
		t.Fatalf("%v: %v, %d", s, m, e)
	}
	return m
}

// levels returns the levels behind the units that a monitor of a spec counts, from the definitions.
func levels(s spec, units []bool) []int {
	switch s.kind {
	case rate:
		return rateLevels(s.l[0], s.l[1], units)
	case sum:
		return sumLevels(s.l[0], units)
	}
	return spanLevels(s.l[0], s.l[1], s.l[2], s.l[3], units)
}

func rateLevels(limit, every int, units []bool) []int {
	var out []int
	level := 0
	for i, ok := range units {
		number := i + 1
		switch { // nothing changes the limit
		case level == limit:
		case !ok && level+1 == limit:
			level = limit
		case !ok && number%every == 0: // one more and one less
		case !ok:
			level++
		case number%every == 0 && level > 0:
			level--
		}
		out = append(out, level)
	}
	return out
}

func sumLevels(limit int, units []bool) []int {
	var out []int
	for n := 1; n <= len(units); n++ {
		out = append(out, min(wrongOf(units[:n]), limit))
	}
	return out
}

func spanLevels(limit, size, up, down int, units []bool) []int {
	var out []int
	level := 0
	for n := 1; n <= len(units); n++ {
		if n%size == 0 && level < limit {
			if wrongOf(units[n-size:n]) > 0 {
				level += up
			} else {
				level -= down
			}
			if level > limit {
				level = limit
			}
			if level < 0 {
				level = 0
			}
		}
		out = append(out, level)
	}
	return out
}

// first returns the number of units after which a monitor of a spec is over, or -1, from the definitions.
func first(s spec, units []bool) int {
	for i, level := range levels(s, units) {
		if level == s.l[0] {
			return i + 1
		}
	}
	return -1
}

// wrongOf returns how many units are wrong.
func wrongOf(units []bool) int {
	n := 0
	for _, ok := range units {
		if !ok {
			n++
		}
	}
	return n
}

// parse returns the units of a text, in which an x is a wrong one and a dot a right one.
func parse(text string) []bool {
	var out []bool
	for _, c := range text {
		out = append(out, c == '.')
	}
	return out
}

// list returns the n units whose wrong ones are the bits of a number.
func list(n int, bits int) []bool {
	out := make([]bool, n)
	for i := range out {
		out[i] = bits>>i&1 == 0
	}
	return out
}

// repeated returns n equal units.
func repeated(ok bool, n int) []bool {
	out := make([]bool, n)
	for i := range out {
		out[i] = ok
	}
	return out
}

// specs returns monitors of all kinds with small arguments.
func specs() []spec {
	var out []spec
	for limit := 1; limit <= 5; limit++ {
		out = append(out, spec{sum, []int{limit}})
		for n := 1; n <= 5; n++ {
			out = append(out, spec{rate, []int{limit, n}})
		}
		for size := 1; size <= 4; size++ {
			for up := 1; up <= 4; up++ {
				for down := 1; down <= 3; down++ {
					out = append(out, spec{span, []int{limit, size, up, down}})
				}
			}
		}
	}
	return out
}

// check compares the state of a monitor.
func check(t *testing.T, what string, m monitors.Monitor, limit, level int) {
	t.Helper()
	for range 2 { // asking changes nothing
		if m.Level() != level || m.Over() != (level == limit) {
			t.Fatalf("%s: level %d, over %t; want level %d of %d", what, m.Level(), m.Over(), level, limit)
		}
	}
}

// random is a generator of numbers that is the same in every run.
type random uint32

func (r *random) below(n int) int {
	*r = *r*1664525 + 1013904223
	return int(*r>>8) % n
}

// units returns up to n-1 units, of which one in some is wrong.
func (r *random) units(n int) []bool {
	out := make([]bool, r.below(n))
	some := 1 + r.below(6)
	for i := range out {
		out[i] = r.below(some) > 0
	}
	return out
}

// spec returns a valid spec.
func (r *random) spec() spec {
	s := spec{kind: kind(r.below(3))}
	for range [...]int{2, 1, 4}[s.kind] {
		s.l = append(s.l, 1+r.below(12))
	}
	return s
}
