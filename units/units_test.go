package units_test

import (
	"bytes"
	"math"
	"slices"
	"strconv"
	"strings"
	"testing"

	"pointcode/api"
	"pointcode/frames"
	"pointcode/sums"
	"pointcode/units"
)

const (
	maxLoad   = 273 // octets
	maxOctets = 276 // of a unit
)

// The types of the constants.
var (
	_ []units.Kind = []units.Kind{units.Fill, units.State, units.Load}
	_ []uint8      = []uint8{units.Out, units.Normal, units.Emergency, units.Stopped, units.Outage, units.Busy}
)

// random is a generator of bytes that is the same in every run.
type random uint32

func (r *random) next() byte {
	*r = *r*1664525 + 1013904223
	return byte(*r >> 24)
}

// octets returns n octets.
func (r *random) octets(n int) []byte {
	out := make([]byte, n)
	for i := range out {
		out[i] = r.next()
	}
	return out
}

// below returns a number below n.
func (r *random) below(n int) int {
	return (int(r.next())<<16 | int(r.next())<<8 | int(r.next())) % n
}

// unit returns a valid unit.
func (r *random) unit() units.Unit {
	u := units.Unit{Back: r.next() % 128, BackBit: r.below(2) == 1, Fore: r.next() % 128, ForeBit: r.below(2) == 1, Kind: units.Kind(r.below(3))}
	switch u.Kind {
	case units.State:
		u.Status = uint8(r.below(6))
	case units.Load:
		u.Load = r.octets(2 + r.below(maxLoad-1))
	}
	return u
}

// errorOf returns the error of a unit, from the definition.
func errorOf(u units.Unit) api.Errno {
	switch {
	case u.Back > 127 || u.Fore > 127, u.Kind > 2, u.Status > 5, u.Status != 0 && u.Kind != 1:
		return api.ErrArg
	case u.Kind == 2 && (len(u.Load) < 2 || len(u.Load) > maxLoad), u.Kind != 2 && len(u.Load) > 0:
		return api.ErrWidth
	}
	return api.OK
}

// octetsOf returns the octets of a valid unit, from the definition.
func octetsOf(u units.Unit) []byte {
	out := []byte{u.Back, u.Fore, 0}
	if u.BackBit {
		out[0] += 128
	}
	if u.ForeBit {
		out[1] += 128
	}
	switch u.Kind {
	case 1:
		out = append(out, u.Status)
	case 2:
		out = append(out, u.Load...)
	}
	if n := len(out) - 3; n > 63 {
		out[2] = 63
	} else {
		out[2] = byte(n)
	}
	return out
}

// signs are the signs of the bits.
var signs = map[bool]string{false: "-", true: "+"}

// textOf returns the text of a valid unit, from the definition.
func textOf(u units.Unit) string {
	words := []string{"back", strconv.Itoa(int(u.Back)) + signs[u.BackBit], "fore", strconv.Itoa(int(u.Fore)) + signs[u.ForeBit]}
	switch u.Kind {
	case 0:
		words = append(words, "fill")
	case 1:
		words = append(words, "state", strconv.Itoa(int(u.Status)))
	case 2:
		load := ""
		for _, v := range u.Load {
			load += strconv.FormatInt(int64(v/16), 16) + strconv.FormatInt(int64(v%16), 16)
		}
		words = append(words, "load", load)
	}
	return strings.Join(words, " ")
}

// zero reports whether a unit is the zero unit.
func zero(u units.Unit) bool {
	return u.Back == 0 && !u.BackBit && u.Fore == 0 && !u.ForeBit && u.Kind == 0 && u.Status == 0 && len(u.Load) == 0
}

// own reports whether a result's capacity is its length.
func own(b []byte) bool { return cap(b) == len(b) }

// many returns units of which some are valid and others have several errors.
func many() []units.Unit {
	var out []units.Unit
	edges := []uint8{0, 1, 2, 5, 6, 63, 126, 127, 128, 129, 255}
	lengths := []int{0, 1, 2, 3, 62, 63, 64, 272, 273, 274, 300}
	var rnd random = 1
	for _, back := range edges {
		for _, fore := range edges {
			for _, kind := range []units.Kind{0, 1, 2, 3, 4, 128, 255} {
				for _, status := range edges {
					for _, n := range lengths {
						out = append(out, units.Unit{Back: back, BackBit: rnd.below(2) == 1, Fore: fore, ForeBit: rnd.below(2) == 1, Kind: kind, Status: status, Load: make([]byte, n)})
					}
				}
			}
		}
	}
	return out
}

// P4.1

func TestConstants(t *testing.T) {
	for i, k := range []units.Kind{units.Fill, units.State, units.Load} {
		if int(k) != i {
			t.Errorf("the kind %d is %d", i, k)
		}
	}
	for i, s := range []uint8{units.Out, units.Normal, units.Emergency, units.Stopped, units.Outage, units.Busy} {
		if int(s) != i {
			t.Errorf("the status %d is %d", i, s)
		}
	}
}

func TestCheck(t *testing.T) {
	for _, x := range []struct {
		u    units.Unit
		want api.Errno
	}{
		{units.Unit{}, api.OK},
		{units.Unit{Back: 127, BackBit: true, Fore: 127, ForeBit: true}, api.OK},
		{units.Unit{Load: []byte{}}, api.OK},
		{units.Unit{Kind: units.State}, api.OK},
		{units.Unit{Kind: units.State, Status: units.Busy, Load: []byte{}}, api.OK},
		{units.Unit{Kind: units.Load, Load: make([]byte, 2)}, api.OK},
		{units.Unit{Kind: units.Load, Load: make([]byte, maxLoad)}, api.OK},
		{units.Unit{Back: 128}, api.ErrArg},
		{units.Unit{Fore: 128}, api.ErrArg},
		{units.Unit{Back: 255, Fore: 255}, api.ErrArg},
		{units.Unit{Kind: 3}, api.ErrArg},
		{units.Unit{Kind: 255}, api.ErrArg},
		{units.Unit{Kind: units.State, Status: 6}, api.ErrArg},
		{units.Unit{Kind: units.State, Status: 255}, api.ErrArg},
		{units.Unit{Status: units.Normal}, api.ErrArg},
		{units.Unit{Kind: units.Load, Status: units.Normal, Load: make([]byte, 2)}, api.ErrArg},
		{units.Unit{Kind: units.Load}, api.ErrWidth},
		{units.Unit{Kind: units.Load, Load: []byte{}}, api.ErrWidth},
		{units.Unit{Kind: units.Load, Load: make([]byte, 1)}, api.ErrWidth},
		{units.Unit{Kind: units.Load, Load: make([]byte, maxLoad+1)}, api.ErrWidth},
		{units.Unit{Load: make([]byte, 1)}, api.ErrWidth},
		{units.Unit{Load: make([]byte, 2)}, api.ErrWidth},
		{units.Unit{Kind: units.State, Load: make([]byte, 1)}, api.ErrWidth},
		{units.Unit{Kind: units.State, Status: units.Busy, Load: make([]byte, 2)}, api.ErrWidth},
		// ErrArg is named first.
		{units.Unit{Back: 128, Kind: units.Load}, api.ErrArg},
		{units.Unit{Fore: 128, Load: make([]byte, 1)}, api.ErrArg},
		{units.Unit{Kind: 3, Load: make([]byte, 1)}, api.ErrArg},
		{units.Unit{Kind: units.State, Status: 6, Load: make([]byte, 1)}, api.ErrArg},
		{units.Unit{Status: units.Normal, Load: make([]byte, 1)}, api.ErrArg},
		{units.Unit{Kind: units.Load, Status: units.Normal}, api.ErrArg},
	} {
		if got := units.Check(x.u); got != x.want {
			t.Errorf("Check(%+v) is %d, not %d", x.u, got, x.want)
		}
	}
}

func TestCheckOfMany(t *testing.T) {
	for _, u := range many() {
		if got, want := units.Check(u), errorOf(u); got != want {
			t.Fatalf("Check(%+v) is %d, not %d", u, got, want)
		}
	}
	for v := range 256 {
		for _, u := range []units.Unit{
			{Back: uint8(v)}, {Fore: uint8(v)}, {Kind: units.Kind(v)}, {Status: uint8(v)}, {Kind: units.State, Status: uint8(v)},
			{Kind: units.Kind(v), Load: make([]byte, 2)}, {Kind: units.Load, Status: uint8(v), Load: make([]byte, 2)},
		} {
			if got, want := units.Check(u), errorOf(u); got != want {
				t.Errorf("Check(%+v) is %d, not %d", u, got, want)
			}
		}
	}
	for n := range 600 {
		for k := range units.Kind(3) {
			u := units.Unit{Kind: k, Load: make([]byte, n)}
			if got, want := units.Check(u), errorOf(u); got != want {
				t.Errorf("Check of the kind %d with a load of %d octets is %d, not %d", k, n, got, want)
			}
		}
	}
}

// P4.2

// coded are units with their octets and texts.
var coded = []struct {
	u    units.Unit
	b    []byte
	text string
}{
	{units.Unit{}, []byte{0, 0, 0}, "back 0- fore 0- fill"},
	{units.Unit{Back: 5, BackBit: true, Fore: 127}, []byte{133, 127, 0}, "back 5+ fore 127- fill"},
	{units.Unit{Back: 127, Fore: 9, ForeBit: true}, []byte{127, 137, 0}, "back 127- fore 9+ fill"},
	{units.Unit{Back: 127, BackBit: true, Fore: 127, ForeBit: true}, []byte{255, 255, 0}, "back 127+ fore 127+ fill"},
	{units.Unit{BackBit: true}, []byte{128, 0, 0}, "back 0+ fore 0- fill"},
	{units.Unit{Fore: 1, ForeBit: true, Kind: units.State, Status: units.Busy}, []byte{0, 129, 1, 5}, "back 0- fore 1+ state 5"},
	{units.Unit{Kind: units.State, Status: units.Out}, []byte{0, 0, 1, 0}, "back 0- fore 0- state 0"},
	{units.Unit{Back: 10, Fore: 100, Kind: units.State, Status: units.Stopped}, []byte{10, 100, 1, 3}, "back 10- fore 100- state 3"},
	{units.Unit{Kind: units.Load, Load: []byte{3, 171}}, []byte{0, 0, 2, 3, 171}, "back 0- fore 0- load 03ab"},
	{units.Unit{Back: 1, Fore: 2, Kind: units.Load, Load: []byte{0x01, 0x23, 0x45, 0x67, 0x89, 0xAB, 0xCD, 0xEF}}, []byte{1, 2, 8, 0x01, 0x23, 0x45, 0x67, 0x89, 0xAB, 0xCD, 0xEF}, "back 1- fore 2- load 0123456789abcdef"},
	{units.Unit{Kind: units.Load, Load: []byte{0, 0}}, []byte{0, 0, 2, 0, 0}, "back 0- fore 0- load 0000"},
	{units.Unit{Kind: units.Load, Load: slices.Repeat([]byte{255}, 62)}, append([]byte{0, 0, 62}, slices.Repeat([]byte{255}, 62)...), "back 0- fore 0- load " + strings.Repeat("ff", 62)},
	{units.Unit{Kind: units.Load, Load: slices.Repeat([]byte{6}, 63)}, append([]byte{0, 0, 63}, slices.Repeat([]byte{6}, 63)...), "back 0- fore 0- load " + strings.Repeat("06", 63)},
	{units.Unit{Kind: units.Load, Load: slices.Repeat([]byte{96}, 64)}, append([]byte{0, 0, 63}, slices.Repeat([]byte{96}, 64)...), "back 0- fore 0- load " + strings.Repeat("60", 64)},
	{units.Unit{Kind: units.Load, Load: slices.Repeat([]byte{1}, maxLoad)}, append([]byte{0, 0, 63}, slices.Repeat([]byte{1}, maxLoad)...), "back 0- fore 0- load " + strings.Repeat("01", maxLoad)},
}

func TestEncode(t *testing.T) {
	for _, x := range coded {
		if got, e := units.Encode(x.u); e != api.OK || !bytes.Equal(got, x.b) || !own(got) {
			t.Errorf("Encode(%+v) is %v, %d", x.u, got, e)
		}
	}
}

func TestEncodeOfMany(t *testing.T) {
	for _, u := range many() {
		got, e := units.Encode(u)
		want := errorOf(u)
		if e != want || want != api.OK && len(got) > 0 || want == api.OK && (!bytes.Equal(got, octetsOf(u)) || !own(got)) {
			t.Fatalf("Encode(%+v) is %v, %d", u, got, e)
		}
	}
	var rnd random = 2
	for range 20000 {
		u := rnd.unit()
		if got, e := units.Encode(u); e != api.OK || !bytes.Equal(got, octetsOf(u)) || !own(got) {
			t.Fatalf("Encode(%+v) is %v, %d", u, got, e)
		}
	}
}

func TestEncodeOfEveryLoad(t *testing.T) {
	var rnd random = 3
	for n := range 600 {
		u := units.Unit{Kind: units.Load, Load: rnd.octets(n)}
		got, e := units.Encode(u)
		if want := errorOf(u); e != want || e != api.OK && len(got) > 0 || e == api.OK && (!bytes.Equal(got, octetsOf(u)) || !own(got)) {
			t.Errorf("Encode of a load of %d octets is %v, %d", n, got, e)
		}
	}
}

func TestDecode(t *testing.T) {
	for _, x := range coded {
		if got, e := units.Decode(x.b); e != api.OK || !equal(got, x.u) || !own(got.Load) {
			t.Errorf("Decode(%v) is %+v, %d", x.b, got, e)
		}
	}
}

// equal reports whether two units are equal, from the definition.
func equal(a, b units.Unit) bool {
	if len(a.Load) != len(b.Load) {
		return false
	}
	for i := range a.Load {
		if a.Load[i] != b.Load[i] {
			return false
		}
	}
	return a.Back == b.Back && a.BackBit == b.BackBit && a.Fore == b.Fore && a.ForeBit == b.ForeBit && a.Kind == b.Kind && a.Status == b.Status
}

func TestDecodeErrors(t *testing.T) {
	for _, x := range []struct {
		b    []byte
		want api.Errno
	}{
		{nil, api.ErrWidth},
		{[]byte{}, api.ErrWidth},
		{[]byte{0}, api.ErrWidth},
		{[]byte{0, 0}, api.ErrWidth},
		{[]byte{1, 2}, api.ErrWidth},
		{make([]byte, maxOctets+1), api.ErrWidth},
		{append([]byte{0, 0, 63}, make([]byte, maxLoad+1)...), api.ErrWidth},
		{make([]byte, 1000), api.ErrWidth},
		{make([]byte, maxOctets), api.ErrForm},
		{[]byte{0, 0, 1}, api.ErrForm},
		{[]byte{0, 0, 255}, api.ErrForm},
		{[]byte{0, 0, 0, 1}, api.ErrForm},
		{[]byte{0, 0, 2, 3}, api.ErrForm},
		{[]byte{0, 0, 1, 6}, api.ErrForm},
		{[]byte{0, 0, 1, 255}, api.ErrForm},
		{[]byte{0, 0, 1, 5, 0}, api.ErrForm},
		{[]byte{0, 0, 3, 1, 2}, api.ErrForm},
		{[]byte{0, 0, 66, 1, 2}, api.ErrForm},
		{[]byte{0, 0, 130, 1, 2}, api.ErrForm},
		{append([]byte{0, 0, 63}, make([]byte, 62)...), api.ErrForm},
		{append([]byte{0, 0, 62}, make([]byte, 63)...), api.ErrForm},
		{append([]byte{0, 0, 64}, make([]byte, 64)...), api.ErrForm},
		{append([]byte{0, 0, 17}, make([]byte, maxLoad)...), api.ErrForm}, // 273 - 256
	} {
		if got, e := units.Decode(x.b); e != x.want || !zero(got) {
			t.Errorf("Decode(%v) is %+v, %d, not the error %d", x.b, got, e, x.want)
		}
	}
}

// TestDecodeOfNumbers decodes all first and second octets.
func TestDecodeOfNumbers(t *testing.T) {
	for a := range 256 {
		for b := range 256 {
			for _, tail := range [][]byte{{0}, {1, 4}, {2, 250, 6}} {
				octets := append([]byte{byte(a), byte(b)}, tail...)
				got, e := units.Decode(octets)
				if e != api.OK || int(got.Back) != a%128 || got.BackBit != (a >= 128) || int(got.Fore) != b%128 || got.ForeBit != (b >= 128) || !bytes.Equal(octetsOf(got), octets) {
					t.Fatalf("Decode(%v) is %+v, %d", octets, got, e)
				}
			}
		}
	}
}

// TestDecodeOfCounts decodes all third octets in front of contents of all lengths.
func TestDecodeOfCounts(t *testing.T) {
	var rnd random = 4
	for n := range 300 {
		octets := rnd.octets(3 + n)
		for third := range 256 {
			octets[2] = byte(third)
			for _, fourth := range []byte{0, 5, 6, 255} {
				if n > 0 {
					octets[3] = fourth
				}
				want := api.OK
				if n > maxLoad {
					want = api.ErrWidth
				} else if third != min(n, 63) || n == 1 && fourth > 5 {
					want = api.ErrForm
				}
				got, e := units.Decode(octets)
				if e != want || e != api.OK && !zero(got) || e == api.OK && (errorOf(got) != api.OK || !bytes.Equal(octetsOf(got), octets)) {
					t.Fatalf("Decode(%v) is %+v, %d, not the error %d", octets, got, e, want)
				}
			}
		}
	}
}

func TestDecodeOfStatuses(t *testing.T) {
	for v := range 256 {
		got, e := units.Decode([]byte{7, 8, 1, byte(v)})
		if v <= 5 && (e != api.OK || !equal(got, units.Unit{Back: 7, Fore: 8, Kind: units.State, Status: uint8(v)})) || v > 5 && (e != api.ErrForm || !zero(got)) {
			t.Errorf("Decode of the status %d is %+v, %d", v, got, e)
		}
	}
}

func TestDecodeHasLoadsOnlyOfLoads(t *testing.T) {
	for _, b := range [][]byte{{0, 0, 0}, {255, 255, 0}, {0, 0, 1, 0}, {0, 0, 1, 5}} {
		if got, e := units.Decode(b); e != api.OK || got.Kind == units.Load || len(got.Load) > 0 {
			t.Errorf("Decode(%v) is %+v, %d", b, got, e)
		}
	}
}

// P4.3

func TestSame(t *testing.T) {
	bases := []units.Unit{
		{},
		{Back: 3, BackBit: true, Fore: 4, ForeBit: true, Kind: units.State, Status: 2},
		{Back: 3, Fore: 3, Kind: units.Load, Load: []byte{1, 2, 3}},
		{Back: 255, Fore: 128, Kind: 9, Status: 77, Load: []byte{9}}, // not valid
		{Back: 127, Kind: units.Load, Load: make([]byte, 1000)},
	}
	for _, a := range bases {
		b := a
		b.Load = bytes.Clone(a.Load)
		if !units.Same(a, a) || !units.Same(a, b) || !units.Same(b, a) {
			t.Errorf("%+v is not the same as itself", a)
		}
		for i, change := range []func(u *units.Unit){
			func(u *units.Unit) { u.Back++ },
			func(u *units.Unit) { u.Back ^= 128 },
			func(u *units.Unit) { u.BackBit = !u.BackBit },
			func(u *units.Unit) { u.Fore++ },
			func(u *units.Unit) { u.Fore ^= 128 },
			func(u *units.Unit) { u.ForeBit = !u.ForeBit },
			func(u *units.Unit) { u.Kind++ },
			func(u *units.Unit) { u.Kind ^= 128 },
			func(u *units.Unit) { u.Status++ },
			func(u *units.Unit) { u.Status ^= 128 },
			func(u *units.Unit) { u.Load = append(u.Load, 0) },
			func(u *units.Unit) { u.Back, u.Fore = u.Back^1, u.Fore^1 },
			func(u *units.Unit) { u.Back, u.Fore = u.Back+1, u.Fore-1 },
			func(u *units.Unit) { u.BackBit, u.ForeBit = !u.BackBit, !u.ForeBit },
		} {
			c := a
			c.Load = bytes.Clone(a.Load)
			change(&c)
			if units.Same(a, c) || units.Same(c, a) {
				t.Errorf("the change %d makes of %+v the same unit", i, a)
			}
		}
		for i := range a.Load {
			c := a
			c.Load = bytes.Clone(a.Load)
			c.Load[i] ^= 64
			d := a
			d.Load = a.Load[:i]
			if units.Same(a, c) || units.Same(c, a) || units.Same(a, d) || units.Same(d, a) {
				t.Errorf("%+v is the same with another load at %d", a, i)
			}
		}
	}
}

func TestSameOfAll(t *testing.T) {
	var list []units.Unit
	for _, back := range []uint8{0, 1, 128} {
		for _, fore := range []uint8{0, 1, 128} {
			for bits := range 4 {
				for _, kind := range []units.Kind{0, 2, 3} {
					for _, status := range []uint8{0, 1} {
						for _, load := range [][]byte{nil, {0}, {1}, {0, 0}, {0, 1}} {
							list = append(list, units.Unit{Back: back, BackBit: bits&1 == 1, Fore: fore, ForeBit: bits&2 == 2, Kind: kind, Status: status, Load: load})
						}
					}
				}
			}
		}
	}
	for i, a := range list {
		for j, b := range list {
			if got := units.Same(a, b); got != (i == j) {
				t.Fatalf("Same(%+v, %+v) is %t", a, b, got)
			}
		}
	}
}

func TestSameOfNoLoad(t *testing.T) {
	for _, u := range []units.Unit{{}, {Kind: units.State, Status: 3}, {Kind: units.Load}, {Kind: 200}} {
		v := u
		v.Load = []byte{}
		if !units.Same(u, v) || !units.Same(v, u) || !units.Same(v, v) {
			t.Errorf("%+v is not the same with an empty load", u)
		}
	}
}

// P4.4

func TestAfter(t *testing.T) {
	for _, x := range []struct {
		n    uint8
		k    int
		want uint8
	}{
		{0, 0, 0}, {0, 1, 1}, {126, 1, 127}, {127, 1, 0}, {127, 2, 1}, {0, -1, 127}, {0, -127, 1}, {5, 128, 5}, {5, -128, 5}, {5, 129, 6}, {5, 256, 5}, {5, -300, 89},
		{128, 0, 0}, {255, 0, 127}, {255, 1, 0}, {200, 0, 72}, {128, -1, 127},
		{1, math.MaxInt, 0}, {127, math.MaxInt, 126}, {255, math.MaxInt, 126}, {1, math.MinInt, 1}, {0, math.MinInt + 1, 1}, {255, math.MinInt, 127}, {0, math.MaxInt - 1, 126},
	} {
		if got := units.After(x.n, x.k); got != x.want {
			t.Errorf("After(%d, %d) is %d, not %d", x.n, x.k, got, x.want)
		}
	}
}

// TestAfterStepByStep counts from each number in both directions.
func TestAfterStepByStep(t *testing.T) {
	for n := range 256 {
		up, down := uint8(n%128), uint8(n%128)
		for k := range 1000 {
			if got := units.After(uint8(n), k); got != up {
				t.Fatalf("After(%d, %d) is %d, not %d", n, k, got, up)
			}
			if got := units.After(uint8(n), -k); got != down {
				t.Fatalf("After(%d, %d) is %d, not %d", n, -k, got, down)
			}
			if up++; up == 128 {
				up = 0
			}
			if down--; down == 255 {
				down = 127
			}
		}
	}
}

func TestAfterOfGreatCounts(t *testing.T) {
	for n := range 256 {
		for shift := 7; shift < 63; shift++ {
			for d := -200; d <= 200; d++ {
				want := uint8(((n%128+d)%128 + 128) % 128)
				if a, b := units.After(uint8(n), 1<<shift+d), units.After(uint8(n), -1<<shift+d); a != want || b != want {
					t.Fatalf("After(%d, ..) is %d %d places around 2^%d and %d around -2^%d, not %d", n, a, d, shift, b, shift, want)
				}
			}
		}
	}
}

func TestAhead(t *testing.T) {
	for _, x := range []struct {
		from, to uint8
		want     int
	}{
		{0, 0, 0}, {0, 1, 1}, {1, 0, 127}, {126, 1, 3}, {1, 126, 125}, {0, 127, 127}, {127, 0, 1}, {127, 127, 0}, {129, 1, 0}, {1, 129, 0}, {0, 255, 127}, {255, 0, 1}, {128, 127, 127}, {255, 128, 1},
	} {
		if got := units.Ahead(x.from, x.to); got != x.want {
			t.Errorf("Ahead(%d, %d) is %d, not %d", x.from, x.to, got, x.want)
		}
	}
}

// TestAheadOfAll compares with a count of the steps.
func TestAheadOfAll(t *testing.T) {
	for from := range 256 {
		for to := range 256 {
			want := 0
			for n := from % 128; n != to%128; n = (n + 1) % 128 {
				want++
			}
			if got := units.Ahead(uint8(from), uint8(to)); got != want {
				t.Fatalf("Ahead(%d, %d) is %d, not %d", from, to, got, want)
			}
		}
	}
}

// P4.5

func TestText(t *testing.T) {
	for _, x := range coded {
		if got := units.Text(x.u); got != x.text {
			t.Errorf("Text(%+v) is %q, not %q", x.u, got, x.text)
		}
	}
}

func TestTextOfMany(t *testing.T) {
	for _, u := range many() {
		want := ""
		if errorOf(u) == api.OK {
			want = textOf(u)
		}
		if got := units.Text(u); got != want {
			t.Fatalf("Text(%+v) is %q, not %q", u, got, want)
		}
	}
	var rnd random = 5
	for range 2000 {
		u := rnd.unit()
		if got, want := units.Text(u), textOf(u); got != want {
			t.Fatalf("Text(%+v) is %q, not %q", u, got, want)
		}
	}
}

func TestTextOfNumbersAndOctets(t *testing.T) {
	for n := range 128 {
		for _, bit := range []bool{false, true} {
			u := units.Unit{Back: uint8(n), BackBit: bit, Fore: uint8(127 - n), ForeBit: !bit}
			if got, want := units.Text(u), textOf(u); got != want {
				t.Errorf("Text(%+v) is %q, not %q", u, got, want)
			}
		}
	}
	for v := range 256 {
		u := units.Unit{Kind: units.Load, Load: []byte{byte(v), byte(255 - v)}}
		if got, want := units.Text(u), textOf(u); got != want {
			t.Errorf("Text(%+v) is %q, not %q", u, got, want)
		}
	}
}

func TestTextOfInvalidUnits(t *testing.T) {
	for _, u := range []units.Unit{
		{Back: 128}, {Fore: 255}, {Kind: 3}, {Status: 1}, {Kind: units.State, Status: 6}, {Load: []byte{1}}, {Kind: units.State, Load: []byte{1, 2}},
		{Kind: units.Load}, {Kind: units.Load, Load: []byte{1}}, {Kind: units.Load, Load: make([]byte, maxLoad+1)}, {Kind: units.Load, Status: 1, Load: []byte{1, 2}},
	} {
		if got := units.Text(u); got != "" {
			t.Errorf("Text(%+v) is %q", u, got)
		}
	}
}

// P4.6

func TestDecodeInvertsEncode(t *testing.T) {
	list := many()
	var rnd random = 6
	for range 20000 {
		list = append(list, rnd.unit())
	}
	for _, u := range list {
		b, e := units.Encode(u)
		if e != api.OK {
			continue
		}
		got, e := units.Decode(b)
		if e != api.OK || !units.Same(got, u) || !equal(got, u) || !own(got.Load) {
			t.Fatalf("Decode of the octets of %+v is %+v, %d", u, got, e)
		}
	}
}

func TestEncodeInvertsDecode(t *testing.T) {
	var rnd random = 7
	decoded := 0
	for range 50000 {
		b := rnd.octets(3 + rnd.below(8))
		if rnd.below(2) == 0 {
			b[2] = byte(len(b) - 3)
		}
		u, e := units.Decode(b)
		if e != api.OK {
			continue
		}
		decoded++
		if got, e := units.Encode(u); e != api.OK || !bytes.Equal(got, b) {
			t.Fatalf("Encode of the unit of %v is %v, %d", b, got, e)
		}
	}
	if decoded < 10000 {
		t.Errorf("only %d lists of octets are units", decoded)
	}
}

func TestTextsDiffer(t *testing.T) {
	owner := map[string]string{} // the octets of each text
	for n := range 128 {
		for bits := range 4 {
			for _, m := range []int{0, 1, 11, 12, 111, 127} {
				u := units.Unit{Back: uint8(n), BackBit: bits&1 == 1, Fore: uint8(m), ForeBit: bits&2 == 2}
				list := []units.Unit{u}
				u.Kind = units.State
				for u.Status = range uint8(6) {
					list = append(list, u)
				}
				u.Kind, u.Status = units.Load, 0
				for _, load := range [][]byte{{0, 0}, {0, 1}, {1, 0}, {0, 16}, {16, 0}, {0, 0, 0}, {0, 0, 1}, {18, 52}, {1, 35, 4}} {
					u.Load = load
					list = append(list, u)
				}
				for _, u := range list {
					b, e := units.Encode(u)
					text := units.Text(u)
					if other, ok := owner[text]; e != api.OK || ok && other != string(b) {
						t.Fatalf("%q is the text of %v and of %v", text, b, []byte(other))
					}
					owner[text] = string(b)
				}
			}
		}
	}
	if want := 128 * 4 * 6 * 16; len(owner) != want {
		t.Errorf("there are %d texts, not %d", len(owner), want)
	}
}

// TestTextsOfEqualUnits holds units against each other that share no memory.
func TestTextsOfEqualUnits(t *testing.T) {
	var rnd random = 8
	for range 2000 {
		u := rnd.unit()
		v := u
		v.Load = bytes.Clone(u.Load)
		if len(v.Load) == 0 {
			v.Load = []byte{}
		}
		if a, b := units.Text(u), units.Text(v); a == "" || a != b {
			t.Fatalf("the texts of %+v are %q and %q", u, a, b)
		}
	}
}

func TestAheadInvertsAfter(t *testing.T) {
	for n := range 256 {
		for k := range 128 {
			if got := units.Ahead(uint8(n), units.After(uint8(n), k)); got != k {
				t.Fatalf("Ahead(%d, After(%d, %d)) is %d", n, n, k, got)
			}
		}
	}
}

func TestUnitsAreContents(t *testing.T) {
	list := []units.Unit{{}, {Kind: units.Load, Load: make([]byte, maxLoad)}}
	for n := 2; n <= maxLoad; n++ {
		list = append(list, units.Unit{Kind: units.Load, Load: slices.Repeat([]byte{255}, n)})
	}
	var rnd random = 9
	for range 500 {
		list = append(list, rnd.unit())
	}
	for _, u := range list {
		b, e := units.Encode(u)
		content := sums.Add(b)
		if _, framed := frames.Frame(content); e != api.OK || framed != api.OK {
			t.Fatalf("%+v makes %d octets: the errors are %d, %d", u, len(content), e, framed)
		}
	}
}

// R1, R4

// TestArgumentsStay gives the functions a part of a longer slice, which they must neither change nor keep.
func TestArgumentsStay(t *testing.T) {
	all := []byte{1, 2, 3, 4, 5, 6, 7, 8}
	before := bytes.Clone(all)
	u := units.Unit{Kind: units.Load, Load: all[:5]}
	b, e := units.Encode(u)
	if e != api.OK || units.Check(u) != api.OK || units.Text(u) != "back 0- fore 0- load 0102030405" || !units.Same(u, u) || !bytes.Equal(all, before) {
		t.Fatalf("the load is %v, the error %d", all, e)
	}
	clear(all)
	if want := []byte{0, 0, 5, 1, 2, 3, 4, 5}; !bytes.Equal(b, want) {
		t.Errorf("the octets are %v behind a change of the load", b)
	}
	copy(all, before)
	clear(b)
	if !bytes.Equal(all, before) {
		t.Errorf("the load is %v behind a change of the octets", all)
	}
}

func TestDecodedOctetsStay(t *testing.T) {
	all := []byte{1, 130, 3, 4, 5, 6, 7, 8}
	before := bytes.Clone(all)
	want := units.Unit{Back: 1, Fore: 2, ForeBit: true, Kind: units.Load, Load: []byte{4, 5, 6}}
	u, e := units.Decode(all[:6])
	v, _ := units.Decode(all[:6])
	if e != api.OK || !equal(u, want) || !bytes.Equal(all, before) {
		t.Fatalf("the unit is %+v, the error %d, the octets are %v", u, e, all)
	}
	clear(all)
	if !equal(u, want) {
		t.Errorf("the unit is %+v behind a change of the octets", u)
	}
	copy(all, before)
	clear(u.Load)
	if !equal(v, want) || !bytes.Equal(all, before) {
		t.Errorf("behind a change of the unit the other one is %+v, the octets are %v", v, all)
	}
}

func TestEncodedOctetsAreNew(t *testing.T) {
	for _, x := range coded {
		a, _ := units.Encode(x.u)
		b, _ := units.Encode(x.u)
		clear(a)
		if !bytes.Equal(b, x.b) {
			t.Errorf("the octets of %+v are %v behind a change of another result", x.u, b)
		}
	}
}
