package links_test

import (
	"slices"
	"strings"
	"testing"

	"pointcode/bits"
	"pointcode/frames"
	"pointcode/lines"
	"pointcode/links"
	"pointcode/sums"
	"pointcode/units"
)

// flag is a flag as a stream.
var flag = []byte{0, 1, 1, 1, 1, 1, 1, 0}

// framed returns what a content has between its flags.
func framed(octets []byte) []byte {
	out, _ := frames.Stuff(bits.Of(octets))
	return out
}

// unit returns a unit as it stands between its flags.
func unit(u units.Unit) []byte {
	octets, _ := units.Encode(u)
	return framed(sums.Add(octets))
}

// fill returns the Fill of an end that has sent loads up to a number, with an acknowledgement.
func fill(back, fore uint8) []byte {
	return unit(units.Unit{Back: back, BackBit: true, Fore: fore, ForeBit: true})
}

// piece returns what stands between two flags: of a State with the status that a letter of ONESPB stands for; of the load with the number of a digit; of a Fill behind no load (f) or behind the load 0 (g), of one that acknowledges the load 0 (k) or a load that was never sent (a); of a content whose check sequence does not match (w), or one with a matching check sequence that is no unit (u, v); or bits in which the scanner finds an error (x, y).
func piece(letter byte) []byte {
	if at := strings.IndexByte("ONESPB", letter); at >= 0 {
		return unit(units.Unit{Kind: units.State, Status: uint8(at)})
	}
	switch letter {
	case 'f':
		return fill(127, 127)
	case 'g':
		return fill(127, 0)
	case 'k':
		return fill(0, 127)
	case 'a':
		return fill(50, 127)
	case 'w':
		return framed([]byte{127, 127, 0, 1, 2})
	case 'u':
		return framed(sums.Add([]byte{0, 0, 1, 6}))
	case 'v':
		return framed(sums.Add([]byte{127, 127, 1}))
	case 'x':
		return []byte{0, 0, 0}
	case 'y':
		return []byte{1, 1, 1, 1, 1, 1, 1}
	}
	n := letter - '0'
	return unit(units.Unit{Back: 127, BackBit: true, Fore: n, ForeBit: true, Kind: units.Load, Load: []byte{n, n, n}})
}

// stream returns flags with pieces between them, and as many flags behind them as are needed for a length. Two of these may share a 0.
func stream(t *testing.T, length int, pieces string) []byte {
	t.Helper()
	out := slices.Clone(flag)
	for i := range len(pieces) {
		out = append(append(out, piece(pieces[i])...), flag...)
	}
	for (length-len(out))%8 != 0 {
		out = append(out, flag[1:]...)
	}
	for len(out) < length {
		out = append(out, flag...)
	}
	if len(out) != length {
		t.Fatalf("%s has no room in %d bits", pieces, length)
	}
	return out
}

// inject returns options with which the burst that an end sends in the last tick of a text is replaced by pieces: where they differ, it is inverted.
func inject(t *testing.T, o links.Options, text string, end int, pieces string) links.Options {
	t.Helper()
	m := modelOf(o)
	perform(t, m, text)
	number := len(m.sent[end]) - 1
	last := m.sent[end][number]
	if last.tick != m.now {
		t.Fatalf("%s: end %d sends nothing", text, end)
	}
	o.Noise[end] = slices.Clone(o.Noise[end])
	for i, b := range stream(t, len(last.bits), pieces) {
		if b != last.bits[i] {
			o.Noise[end] = append(o.Noise[end], lines.Noise{At: number, Kind: lines.Flip, Bit: i})
		}
	}
	return o
}

// ticks returns the acts of n ticks.
func ticks(n int) string { return strings.Repeat(".", n) }

// place is a text of acts behind which end 1 is in a state, having just been sent a long burst by end 0.
type place struct {
	options links.Options
	text    string
}

// aligning returns a place in the state Aligning, whose phase is Seeking.
func aligning(o links.Options) place { return place{o, "aA" + ticks(25) + "m.SA"} }

// ready returns a place in the state Ready. End 0 is in the state Service as only its own Fill has been lost.
func ready(o links.Options) place {
	o.Noise[0] = append(slices.Clone(o.Noise[0]), lines.Noise{At: 23, Kind: lines.Drop})
	return place{o, "aA" + ticks(24) + "m."}
}

// service returns a place in the state Service, in which end 1 has heard two units: in the ticks 25 and 26.
func service(o links.Options) place { return place{o, "aA" + ticks(25) + "m."} }

// hears returns a link behind the acts of a place and a tick in which end 1 hears pieces. It agrees with the model, also for some time later.
func (p place) hears(t *testing.T, pieces string) *links.Link {
	t.Helper()
	o := inject(t, p.options, p.text, 0, pieces)
	agree(t, o, p.text+".tTlL...........")
	return behind(t, o, p.text+".")
}

// sees is what is seen of end 1: the letter of its state (- Off, A, R, S, X Out), the loads that it has accepted as digits, and how many wrong units have arrived.
type sees struct {
	state string
	loads string
	wrong int
}

// letter returns the letter of a state.
func letter(s links.State) string { return "-ARSX?"[min(s, 5):][:1] }

// seen returns what is seen of end 1, whose loads are taken.
func seen(x actor) sees {
	out := sees{state: letter(x.State(1)), wrong: x.Wrong(1)}
	for _, load := range x.Take(1) {
		out.loads += string('0' + rune(load[0]))
	}
	return out
}

// hearAll lets end 1 hear pieces in a place.
func (p place) hearAll(t *testing.T, all map[string]sees) {
	t.Helper()
	for pieces, want := range all {
		if got := seen(p.hears(t, pieces)); got != want {
			t.Errorf("%s: %+v, not %+v", pieces, got, want)
		}
	}
}

// many returns n pieces with the same letter.
func many(letter string, n int) string { return strings.Repeat(letter, n) }

// TestHearAligning lets an end hear units in the state Aligning. The alignment hears only statuses and wrong units.
func TestHearAligning(t *testing.T) {
	aligning(links.Usual(1)).hearAll(t, map[string]sees{
		"":                         {"A", "", 0},
		"f01ka":                    {"A", "", 0},
		"S":                        {"A", "", 0},
		"O":                        {"A", "", 0},
		"OS":                       {"X", "", 0},
		"NS":                       {"X", "", 0},
		"ES":                       {"X", "", 0},
		"PS":                       {"A", "", 0},
		"BS":                       {"A", "", 0},
		"fS":                       {"A", "", 0},
		"OOONNOS":                  {"X", "", 0},
		"OSOOf":                    {"X", "", 0},
		"OSw":                      {"X", "", 1},
		"wuvxy":                    {"A", "", 5},
		many("w", 25):              {"A", "", 25},
		"ON" + many("w", 3):        {"A", "", 3},
		"ON" + many("w", 19):       {"A", "", 19},
		"ON" + many("w", 20):       {"X", "", 20},
		"ON" + many("w", 25):       {"X", "", 25},
		"ON" + many("wf", 12):      {"A", "", 12},
		"ON" + many("wu", 10):      {"X", "", 20},
		"ON" + many("v", 20):       {"X", "", 20},
		many("x", 20) + "ON":       {"X", "", 20},
		many("y", 20) + "ON":       {"X", "", 20},
		many("x", 20) + "NO":       {"A", "", 20},
		many("x", 19) + "ON":       {"A", "", 19},
		many("w", 20) + "ON":       {"A", "", 20},
		"OE" + many("w", 4):        {"A", "", 4},
		"OE" + many("w", 5):        {"X", "", 5},
		"EN" + many("w", 5):        {"X", "", 5},
		"OP" + many("w", 20):       {"X", "", 20},
		"OB" + many("w", 20):       {"X", "", 20},
		"ON" + many("w", 20) + "f": {"X", "", 20},
	})
}

// TestHearReady lets an end hear units in the state Ready.
func TestHearReady(t *testing.T) {
	o := links.Usual(1)
	o.Limit = 1
	ready(o).hearAll(t, map[string]sees{
		"":             {"R", "", 0},
		"O":            {"X", "", 0},
		"S":            {"X", "", 0},
		"N":            {"R", "", 0},
		"E":            {"R", "", 0},
		"P":            {"R", "", 0},
		"B":            {"R", "", 0},
		"NEPBBPEN":     {"R", "", 0},
		"NEPBS":        {"X", "", 0},
		"NEPBO":        {"X", "", 0},
		"w":            {"R", "", 1},
		"u":            {"R", "", 1},
		"v":            {"R", "", 1},
		"x":            {"R", "", 1},
		"y":            {"R", "", 1},
		many("wu", 15): {"R", "", 30},
		"f":            {"S", "", 0},
		"0":            {"S", "0", 0},
		"1":            {"S", "", 0},
		"a":            {"S", "", 0},
		"k":            {"S", "", 0},
		"aa":           {"X", "", 0},
		"012":          {"S", "012", 0},
		"wN0B":         {"S", "0", 1},
		"wwf":          {"S", "", 2},
		"fw":           {"X", "", 1},
		"0w1":          {"X", "0", 1},
		"x0":           {"X", "0", 1},
		"yx0w1":        {"X", "0", 3},
		"xN":           {"R", "", 1},
		"O0":           {"X", "", 0},
		"S0":           {"X", "", 0},
		"Sw":           {"X", "", 1},
		"0O1":          {"X", "0", 0},
		"0N1":          {"X", "0", 0},
		"0E1":          {"X", "0", 0},
		"0S1":          {"X", "0", 0},
		"0P1B2":        {"S", "012", 0},
	})
}

// TestHearService lets an end hear units in the state Service.
func TestHearService(t *testing.T) {
	o := links.Usual(1)
	o.Limit = 5
	service(o).hearAll(t, map[string]sees{
		"":                  {"S", "", 0},
		"O":                 {"X", "", 0},
		"N":                 {"X", "", 0},
		"E":                 {"X", "", 0},
		"S":                 {"X", "", 0},
		"P":                 {"S", "", 0},
		"B":                 {"S", "", 0},
		"f":                 {"S", "", 0},
		"0":                 {"S", "0", 0},
		"012345":            {"S", "012345", 0},
		"P0gB1":             {"S", "01", 0},
		"0012012":           {"S", "012", 0},
		"02":                {"S", "0", 0},
		"a0":                {"S", "0", 0},
		"0aa1":              {"X", "0", 0},
		"0afa1":             {"X", "0", 0},
		"0aPa1":             {"X", "0", 0},
		"0agga1":            {"S", "01", 0},
		"0wauvPw1":          {"S", "01", 4},
		"0wuvww1":           {"X", "0", 5},
		"0O1":               {"X", "0", 0},
		"0Oww":              {"X", "0", 2},
		"0aa1wuvxy":         {"X", "0", 5},
		many("w", 4) + "0":  {"S", "0", 4},
		many("w", 5) + "0":  {"X", "", 5},
		many("w", 7) + "0":  {"X", "", 7},
		many("x", 5) + "0":  {"X", "0", 5},
		many("y", 5) + "01": {"X", "01", 5},
		many("xy", 2) + "0": {"S", "0", 4},
		"xyxw0w1":           {"X", "01", 5},
		"xyxw0ww1":          {"X", "01", 6},
		"xyxww0www1":        {"X", "0", 8},
	})
}

// TestRates lets an end forget a wrong unit with every fourth unit that it hears in the state Service, from the one on that has led to it.
func TestRates(t *testing.T) {
	o := links.Usual(1)
	o.Limit, o.Every = 2, 4
	service(o).hearAll(t, map[string]sees{
		"ww":        {"X", "", 2},
		"wfw":       {"S", "", 2},
		"w0w":       {"S", "0", 2},
		"wPw":       {"S", "", 2},
		"wBw":       {"S", "", 2},
		"waw":       {"S", "", 2},
		"fww":       {"S", "", 2},
		"fwww":      {"X", "", 3},
		"wfwffw":    {"X", "", 3},
		"wfwfffw":   {"S", "", 3},
		"ffwfw":     {"X", "", 2},
		"wfwff0gw1": {"S", "01", 3},
		"wfwf0w1":   {"X", "0", 3},
		"xf0":       {"S", "0", 1},
		"xxf0":      {"X", "0", 2},
		"xxf":       {"S", "", 2},
	})
	ready(o).hearAll(t, map[string]sees{
		"fww":       {"X", "", 2},
		"fwfw":      {"X", "", 2},
		"fwffw":     {"S", "", 2},
		"0wfwf":     {"X", "0", 2},
		"NwwP0ffww": {"S", "0", 4},
		"NwwP0fww":  {"X", "0", 4},
		"NwwP0www":  {"X", "0", 5},
	})
}
