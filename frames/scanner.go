package frames

import (
	"slices"

	"pointcode/api"
	"pointcode/bits"
)

// The states of a scanner. That of the zero Scanner is none of them.
const (
	hunting = iota + 1
	inside
)

// closing is the number of bits of a closing flag that are kept before the flag is recognized.
const closing = flagBits - 1

// maxKept is the number of kept bits from which on a content is too long, however many follow.
const maxKept = octet*MaxFrame + closing + 1

// Scanner finds the contents between flags.
type Scanner struct {
	state  int
	ones   int    // consecutive ones directly before the next bit
	kept   []byte // bits since the end of the last flag, at most maxKept of them
	errors int
}

// New returns a scanner that has read nothing.
func New() *Scanner { return &Scanner{state: hunting} }

// Feed reads bits and returns the contents that end in them.
func (x *Scanner) Feed(s []byte) ([][]byte, api.Errno) {
	if x == nil || x.state == 0 {
		return nil, api.ErrNil
	}
	if e := bits.Check(s); e != api.OK {
		return nil, e
	}
	return collected(s, x.read), api.OK
}

// Errors returns how many errors have been found.
func (x *Scanner) Errors() int {
	if x == nil {
		return 0
	}
	return x.errors
}

// Hunting reports whether the scanner waits for a flag.
func (x *Scanner) Hunting() bool { return x != nil && x.state == hunting }

// collected passes the bits of a stream to read, one after another, and returns the contents that it finds.
func collected(s []byte, read func(byte) []byte) [][]byte {
	var out [][]byte
	for _, b := range s {
		if content := read(b); len(content) > 0 {
			out = append(out, content)
		}
	}
	return slices.Clip(out)
}

// read takes in a bit and returns the content that ends with it, if there is one.
func (x *Scanner) read(b byte) []byte {
	ones := x.ones
	x.ones = counted(ones, b)
	if b == 0 && ones == flagOnes {
		return x.end()
	}
	if b == 0 && ones == mostOnes {
		return nil
	}
	x.keep(b)
	if x.ones > flagOnes && x.state == inside {
		x.errors++
		x.state = hunting
	}
	return nil
}

// keep keeps a bit, unless nothing can depend on it.
func (x *Scanner) keep(b byte) {
	if x.state == inside && len(x.kept) < maxKept {
		x.kept = append(x.kept, b)
	}
}

// end ends a flag and returns the content in front of it, if there is one.
func (x *Scanner) end() []byte {
	content := x.kept[:max(0, len(x.kept)-closing)]
	closes := x.state == inside && len(content) > 0
	x.state = inside
	x.kept = x.kept[:0]
	if !closes {
		return nil
	}
	if len(content)%octet != 0 || len(content) < octet*MinOctets || len(content) > octet*MaxFrame {
		x.errors++
		return nil
	}
	octets, _ := bits.Octets(content)
	return octets
}
