package frames_test

import (
	"bytes"
	"slices"
	"strings"
	"testing"

	"pointcode/api"
	"pointcode/bits"
	"pointcode/frames"
)

const flag = "01111110"

// stream returns the stream of a text; other digits than 0 and 1 become invalid elements.
func stream(s string) []byte {
	out := make([]byte, 0, len(s))
	for i := range len(s) {
		out = append(out, s[i]-'0')
	}
	return out
}

// text returns the text of a stream.
func text(s []byte) string {
	out := make([]byte, 0, len(s))
	for _, b := range s {
		out = append(out, b+'0')
	}
	return string(out)
}

// stuffed returns the text of the stuffed stream.
func stuffed(s string) string { return strings.ReplaceAll(s, "11111", "111110") }

// texts returns all texts of at most n characters 0 and 1.
func texts(n int) []string {
	out, last := []string{""}, []string{""}
	for range n {
		var next []string
		for _, s := range last {
			next = append(next, s+"0", s+"1")
		}
		out, last = append(out, next...), next
	}
	return out
}

// zeros returns the text of n zeros, and ones that of n ones.
func zeros(n int) string { return strings.Repeat("0", n) }
func ones(n int) string  { return strings.Repeat("1", n) }

// random is a generator of bytes that is the same in every run.
type random uint32

func (r *random) next() byte {
	*r = *r*1664525 + 1013904223
	return byte(*r >> 24)
}

// content returns n octets of which many are full of ones.
func (r *random) content(n int) []byte {
	out := make([]byte, n)
	for i := range out {
		out[i] = r.next()
		if r.next() < 128 {
			out[i] |= r.next() | r.next()
		}
	}
	return out
}

// stream returns n bits of which three quarters are ones.
func (r *random) stream(n int) []byte {
	out := make([]byte, n)
	for i := range out {
		if r.next() < 192 {
			out[i] = 1
		}
	}
	return out
}

// invalidStreams contains streams with their errors.
var invalidStreams = []struct {
	name string
	s    []byte
	e    api.Errno
}{
	{"one element 2", stream("2"), api.ErrArg},
	{"the first element is invalid", stream("30000000"), api.ErrArg},
	{"the last element is invalid", stream("000000009"), api.ErrArg},
	{"an invalid element behind a flag", stream(flag + zeros(40) + flag + "2"), api.ErrArg},
	{"invalid, and no stuffed stream", stream(ones(6) + "2"), api.ErrArg},
	{"too long", make([]byte, api.MaxBits+1), api.ErrLimit},
	{"too long, with an invalid element", append(make([]byte, api.MaxBits), 2), api.ErrLimit},
	{"too long, and no stuffed stream", slices.Repeat([]byte{1}, api.MaxBits+1), api.ErrLimit},
}

// own reports whether a result's capacity is its length.
func own(s []byte) bool { return cap(s) == len(s) }

// P2.1

func TestStuff(t *testing.T) {
	for s, want := range map[string]string{
		"":           "",
		"0":          "0",
		"1111":       "1111",
		"11111":      "111110",
		"1111110":    "11111010",
		"111110":     "1111100",
		"1111011111": "11110111110",
		ones(10):     "111110111110",
		ones(11):     "1111101111101",
		flag:         "011111010",
		"1111010111": "1111010111",
	} {
		if got, e := frames.Stuff(stream(s)); e != api.OK || text(got) != want || !own(got) {
			t.Errorf("Stuff(%s) is %v, %d", s, got, e)
		}
	}
	if got, e := frames.Stuff(nil); e != api.OK || len(got) != 0 {
		t.Errorf("Stuff of nil is %v, %d", got, e)
	}
}

func TestUnstuff(t *testing.T) {
	for s, want := range map[string]string{
		"":               "",
		"1111":           "1111",
		"111110":         "11111",
		"1111101":        "111111",
		"1111100":        "111110",
		"111110111110":   ones(10),
		"1111101111100":  ones(10) + "0",
		"01111100111110": "011111011111",
	} {
		if got, e := frames.Unstuff(stream(s)); e != api.OK || text(got) != want || !own(got) {
			t.Errorf("Unstuff(%s) is %v, %d", s, got, e)
		}
	}
	for _, s := range []string{"11111", "111111", "1111111", "0111111", flag, "011111", "11111011111", "111110111111", "0000111111000"} {
		if got, e := frames.Unstuff(stream(s)); e != api.ErrForm || len(got) != 0 {
			t.Errorf("Unstuff(%s) is %v, %d", s, got, e)
		}
	}
	if got, e := frames.Unstuff(nil); e != api.OK || len(got) != 0 {
		t.Errorf("Unstuff of nil is %v, %d", got, e)
	}
}

// All short streams: Unstuff finds the stream whose stuffed stream is given, if there is one.
func TestUnstuffEveryShortStream(t *testing.T) {
	origin := map[string]string{}
	for _, s := range texts(13) {
		got, e := frames.Stuff(stream(s))
		if e != api.OK || text(got) != stuffed(s) {
			t.Fatalf("Stuff(%s) is %v, %d", s, got, e)
		}
		if bits.Run(got, 1) > 5 {
			t.Fatalf("Stuff(%s) has six ones", s)
		}
		origin[text(got)] = s
	}
	for _, s := range texts(13) {
		want, there := origin[s]
		got, e := frames.Unstuff(stream(s))
		if there && (e != api.OK || text(got) != want) || !there && (e != api.ErrForm || len(got) != 0) {
			t.Fatalf("Unstuff(%s) is %v, %d", s, got, e)
		}
	}
}

func TestStreamErrors(t *testing.T) {
	for _, x := range invalidStreams {
		if got, e := frames.Stuff(x.s); e != x.e || len(got) != 0 {
			t.Errorf("Stuff: %s: %d elements, %d, want %d", x.name, len(got), e, x.e)
		}
		if got, e := frames.Unstuff(x.s); e != x.e || len(got) != 0 {
			t.Errorf("Unstuff: %s: %d elements, %d, want %d", x.name, len(got), e, x.e)
		}
	}
}

func TestStuffLimit(t *testing.T) {
	s := make([]byte, api.MaxBits)
	if got, e := frames.Stuff(s); e != api.OK || len(got) != api.MaxBits {
		t.Errorf("zeros: %d elements, %d", len(got), e)
	}
	if got, e := frames.Unstuff(s); e != api.OK || len(got) != api.MaxBits {
		t.Errorf("Unstuff: zeros: %d elements, %d", len(got), e)
	}
	for i := range 5 {
		s[api.MaxBits-1-i] = 1
	}
	if got, e := frames.Stuff(s); e != api.ErrLimit || len(got) != 0 {
		t.Errorf("five ones at the end: %d elements, %d", len(got), e)
	}
	if got, e := frames.Stuff(s[1:]); e != api.OK || len(got) != api.MaxBits || !own(got) {
		t.Errorf("one element less: %d elements, %d", len(got), e)
	}
	if got, e := frames.Stuff(slices.Repeat([]byte{1}, api.MaxBits)); e != api.ErrLimit || len(got) != 0 {
		t.Errorf("ones: %d elements, %d", len(got), e)
	}
}

// P2.2

// framed returns the text of Join.
func framed(l [][]byte) string {
	out := flag
	for _, b := range l {
		out += stuffed(text(bits.Of(b))) + flag
	}
	return out
}

func TestFrame(t *testing.T) {
	got, e := frames.Frame([]byte{0, 0, 0, 0, 255})
	if want := flag + zeros(32) + "111110111" + flag; e != api.OK || text(got) != want || !own(got) {
		t.Errorf("%s, %d", text(got), e)
	}
	got, e = frames.Frame([]byte{0, 0, 0, 0, 0xf8})
	if want := flag + zeros(35) + "111110" + flag; e != api.OK || text(got) != want {
		t.Errorf("five ones in front of the flag: %s, %d", text(got), e)
	}
	var r random
	for n := range 300 {
		b := r.content(n)
		got, e := frames.Frame(b)
		if n < 5 || n > 280 {
			if e != api.ErrWidth || len(got) != 0 {
				t.Errorf("%d octets: %d elements, %d", n, len(got), e)
			}
			continue
		}
		if e != api.OK || text(got) != framed([][]byte{b}) {
			t.Errorf("%d octets: %d elements, %d", n, len(got), e)
		}
	}
	if frames.MinOctets != 5 || frames.MaxFrame != 280 {
		t.Error("the limits of a content")
	}
}

func TestJoin(t *testing.T) {
	var r random
	for n := range 6 {
		var l [][]byte
		for range n {
			l = append(l, r.content(5+int(r.next())%20))
		}
		if got, e := frames.Join(l...); e != api.OK || text(got) != framed(l) || !own(got) {
			t.Errorf("%d contents: %s, %d", n, text(got), e)
		}
	}
	if got, e := frames.Join([][]byte{}...); e != api.OK || text(got) != flag {
		t.Errorf("an empty slice: %v, %d", got, e)
	}
}

func TestJoinErrors(t *testing.T) {
	right := []byte{1, 2, 3, 4, 5}
	for _, n := range []int{0, 1, 4, 281, 1000} {
		wrong := make([]byte, n)
		for _, l := range [][][]byte{{wrong}, {right, wrong}, {wrong, right}, {right, wrong, right}} {
			if got, e := frames.Join(l...); e != api.ErrWidth || len(got) != 0 {
				t.Errorf("%d octets: %d elements, %d", n, len(got), e)
			}
		}
	}
	if got, e := frames.Join(right, nil); e != api.ErrWidth || len(got) != 0 {
		t.Errorf("nil: %v, %d", got, e)
	}
}

func TestJoinLimit(t *testing.T) {
	// A flag, and 466 contents of 2240 zeros and a flag each: there is room for one of 124 octets and a flag.
	many := slices.Repeat([][]byte{make([]byte, 280)}, 466)
	last := 8 + 466*2248
	full := (api.MaxBits - last - 8) / 8
	if got, e := frames.Join(append(many, make([]byte, full))...); e != api.OK || len(got) != last+8*full+8 || len(got) != api.MaxBits {
		t.Errorf("at the limit: %d elements, %d", len(got), e)
	}
	if got, e := frames.Join(append(many, make([]byte, full+1))...); e != api.ErrLimit || len(got) != 0 {
		t.Errorf("an octet more: %d elements, %d", len(got), e)
	}
	if got, e := frames.Join(append(many, make([]byte, full), make([]byte, 5))...); e != api.ErrLimit || len(got) != 0 {
		t.Errorf("a content more: %d elements, %d", len(got), e)
	}
	stuffing := make([]byte, full)
	stuffing[0] = 31
	if got, e := frames.Join(append(many, stuffing)...); e != api.ErrLimit || len(got) != 0 {
		t.Errorf("a stuffed bit more: %d elements, %d", len(got), e)
	}
	tooMany := slices.Repeat([][]byte{make([]byte, 280)}, 5000)
	if got, e := frames.Join(tooMany...); e != api.ErrLimit || len(got) != 0 {
		t.Errorf("5000 contents: %d elements, %d", len(got), e)
	}
	if got, e := frames.Join(append(tooMany, nil)...); e != api.ErrWidth || len(got) != 0 {
		t.Errorf("too many contents, and the last one is too short: %d elements, %d", len(got), e)
	}
}

// P2.3

// reading is what a scanner has found: the contents and the errors, and whether it is hunting.
type reading struct {
	found   [][]byte
	errors  int
	hunting bool
}

// expected reads a stream as the chapter defines it, by looking back from each position.
func expected(s string) reading {
	x := reading{hunting: true}
	var kept []byte
	for i := range len(s) {
		run := len(s[:i]) - len(strings.TrimRight(s[:i], "1"))
		switch {
		case s[i] == '1':
			kept = append(kept, 1)
			if run == 6 && !x.hunting {
				x.errors++
				x.hunting = true
			}
		case run == 5:
		case run == 6:
			if !x.hunting {
				x.end(kept[:max(0, len(kept)-7)])
			}
			x.hunting = false
			kept = nil
		default:
			kept = append(kept, 0)
		}
	}
	return x
}

// end takes in the bits between two flags.
func (x *reading) end(s []byte) {
	if len(s) == 0 {
		return
	}
	if len(s)%8 != 0 || len(s) < 8*frames.MinOctets || len(s) > 8*frames.MaxFrame {
		x.errors++
		return
	}
	b, _ := bits.Octets(s)
	x.found = append(x.found, b)
}

// scanned lets a new scanner read streams.
func scanned(t *testing.T, l ...[]byte) reading {
	t.Helper()
	y := frames.New()
	var x reading
	for _, s := range l {
		found, e := y.Feed(s)
		if e != api.OK || cap(found) != len(found) {
			t.Fatalf("Feed: %d, %d contents in %d", e, len(found), cap(found))
		}
		x.found = append(x.found, found...)
	}
	x.errors, x.hunting = y.Errors(), y.Hunting()
	return x
}

// equal reports whether two readings are equal.
func (x reading) equal(y reading) bool {
	return slices.EqualFunc(x.found, y.found, bytes.Equal) && x.errors == y.errors && x.hunting == y.hunting
}

func TestNew(t *testing.T) {
	y := frames.New()
	if y == nil || y.Errors() != 0 || !y.Hunting() {
		t.Fatal("a new scanner")
	}
	if l, e := y.Feed(nil); e != api.OK || len(l) != 0 || y.Errors() != 0 || !y.Hunting() {
		t.Errorf("after nothing: %v, %d", l, e)
	}
	if l, e := y.Feed([]byte{}); e != api.OK || len(l) != 0 || y.Errors() != 0 || !y.Hunting() {
		t.Errorf("after an empty stream: %v, %d", l, e)
	}
}

func TestFeedExample(t *testing.T) {
	y := frames.New()
	l, e := y.Feed(stream(flag + zeros(32) + "111110111" + flag))
	if e != api.OK || len(l) != 1 || !bytes.Equal(l[0], []byte{0, 0, 0, 0, 255}) || !own(l[0]) || y.Errors() != 0 || y.Hunting() {
		t.Errorf("%v, %d, %d errors", l, e, y.Errors())
	}
	l, e = y.Feed(stream(flag + zeros(8) + flag))
	if e != api.OK || len(l) != 0 || y.Errors() != 1 || y.Hunting() {
		t.Errorf("%v, %d, %d errors", l, e, y.Errors())
	}
	l, e = y.Feed(stream(ones(7)))
	if e != api.OK || len(l) != 0 || y.Errors() != 2 || !y.Hunting() {
		t.Errorf("%v, %d, %d errors", l, e, y.Errors())
	}
}

func TestFeed(t *testing.T) {
	for _, x := range []struct {
		s       string
		found   int
		errors  int
		hunting bool
	}{
		{zeros(100), 0, 0, true},
		{"0111111", 0, 0, true},
		{flag, 0, 0, false},
		{"1111110", 0, 0, false},
		{"11111110", 0, 0, true},
		{ones(50) + "0", 0, 0, true},
		{flag + flag + flag, 0, 0, false},
		{"0" + strings.Repeat("1111110", 4), 0, 0, false},
		{flag + ones(6), 0, 0, false},
		{flag + ones(7), 0, 1, true},
		{flag + ones(20), 0, 1, true},
		{flag + ones(7) + "0" + ones(7), 0, 1, true},
		{flag + ones(7) + flag + ones(7), 0, 2, true},
		{flag + ones(8) + "0" + zeros(40) + flag, 0, 1, false},
		{zeros(40) + flag, 0, 0, false},
		{flag + zeros(39) + flag, 0, 1, false},
		{flag + zeros(40) + flag, 1, 0, false},
		{flag + zeros(41) + flag, 0, 1, false},
		{flag + zeros(32) + flag, 0, 1, false},
		{flag + "0" + flag, 0, 1, false},
		{flag + "1" + flag, 0, 1, false},
		{flag + zeros(40) + flag + zeros(48) + flag, 2, 0, false},
		{flag + zeros(40) + flag + flag + zeros(48) + flag, 2, 0, false},
		{flag + zeros(40) + "01111110111111" + zeros(41) + flag, 2, 0, false},
		{flag + zeros(39) + "1111110", 0, 1, false},
		{flag + zeros(8*280) + flag, 1, 0, false},
		{flag + zeros(8*280+1) + flag, 0, 1, false},
		{flag + zeros(8*280+7) + flag, 0, 1, false},
		{flag + zeros(8*281) + flag, 0, 1, false},
		{flag + zeros(100000) + flag, 0, 1, false},
		{flag + zeros(8*12345) + flag, 0, 1, false},
		{flag + zeros(100000) + flag + zeros(40) + flag, 1, 1, false},
		{flag + zeros(40) + ones(7) + zeros(40) + flag, 0, 1, false},
		{flag + zeros(40) + ones(7) + flag + zeros(40) + flag, 1, 1, false},
	} {
		s := stream(x.s)
		got := scanned(t, s)
		if len(got.found) != x.found || got.errors != x.errors || got.hunting != x.hunting || !got.equal(expected(x.s)) {
			t.Errorf("%.100s: %d contents, %d errors, %t", x.s, len(got.found), got.errors, got.hunting)
		}
	}
}

// All short streams behind a flag and a content in front of a flag.
func TestFeedEveryShortStream(t *testing.T) {
	for _, s := range texts(11) {
		for _, whole := range []string{s, flag + s, flag + zeros(36) + s + flag, flag + s + "0" + flag} {
			if got := scanned(t, stream(whole)); !got.equal(expected(whole)) {
				t.Fatalf("%s: %v", whole, got)
			}
		}
	}
}

func TestFeedErrors(t *testing.T) {
	var none *frames.Scanner
	zero := new(frames.Scanner)
	for _, y := range []*frames.Scanner{none, zero} {
		for _, s := range [][]byte{nil, stream(flag), stream("2"), make([]byte, api.MaxBits+1)} {
			if l, e := y.Feed(s); e != api.ErrNil || len(l) != 0 {
				t.Errorf("%v, %d", l, e)
			}
		}
		if y.Errors() != 0 || y.Hunting() {
			t.Errorf("%d, %t", y.Errors(), y.Hunting())
		}
	}
	for _, x := range invalidStreams {
		y := frames.New()
		if l, e := y.Feed(x.s); e != x.e || len(l) != 0 || y.Errors() != 0 || !y.Hunting() {
			t.Errorf("%s: %v, %d, want %d", x.name, l, e, x.e)
		}
		// It has read nothing: the content that has begun goes on.
		y.Feed(stream(flag + zeros(39)))
		if l, e := y.Feed(x.s); e != x.e || len(l) != 0 {
			t.Errorf("%s: %v, %d, want %d", x.name, l, e, x.e)
		}
		if l, e := y.Feed(stream("1" + flag)); e != api.OK || len(l) != 1 || !bytes.Equal(l[0], []byte{0, 0, 0, 0, 128}) || y.Errors() != 0 {
			t.Errorf("behind %s: %v, %d", x.name, l, e)
		}
	}
	if l, e := frames.New().Feed(make([]byte, api.MaxBits)); e != api.OK || len(l) != 0 {
		t.Errorf("at the limit: %v, %d", l, e)
	}
}

// P2.4

func TestFeedInParts(t *testing.T) {
	r := random(7)
	for range 300 {
		s := r.stream(int(r.next()))
		for range int(r.next()) % 4 {
			more, _ := frames.Join(r.content(5+int(r.next())%9), r.content(5))
			s = append(append(s, more...), r.stream(int(r.next())%20)...)
		}
		want := expected(text(s))
		var single, parts [][]byte
		for rest := s; len(rest) > 0; {
			n := min(len(rest), int(r.next())%40)
			parts = append(parts, rest[:n])
			rest = rest[n:]
		}
		for i := range s {
			single = append(single, s[i:i+1])
		}
		for _, l := range [][][]byte{{s}, parts, single} {
			if got := scanned(t, l...); !got.equal(want) {
				t.Fatalf("%s in %d parts: %v, want %v", text(s), len(l), got, want)
			}
		}
	}
}

func TestUnstuffInvertsStuff(t *testing.T) {
	var r random
	for range 200 {
		s := r.stream(int(r.next()))
		mid, e := frames.Stuff(s)
		if e != api.OK {
			t.Fatal(e)
		}
		if got, e := frames.Unstuff(mid); e != api.OK || !bytes.Equal(got, s) {
			t.Fatalf("%v, %d, want %v", got, e, s)
		}
	}
}

func TestScannerFindsWhatWasJoined(t *testing.T) {
	r := random(3)
	for range 100 {
		var l [][]byte
		for range int(r.next()) % 6 {
			l = append(l, r.content(5+int(r.next())%276))
		}
		s, _ := frames.Join(l...)
		if got := scanned(t, s); !got.equal(reading{l, 0, false}) {
			t.Fatalf("%v, want %v", got, l)
		}
		before := r.stream(int(r.next()))
		got := scanned(t, before, s)
		if len(got.found) < len(l) || !slices.EqualFunc(got.found[len(got.found)-len(l):], l, bytes.Equal) || got.hunting {
			t.Fatalf("behind %s: %v, want %v", text(before), got, l)
		}
	}
}

// Whatever stands in front of it, the first flag of Join is recognized.
func TestScannerFindsWhatWasJoinedBehindEveryShortStream(t *testing.T) {
	content := []byte{1, 2, 3, 4, 255}
	s, _ := frames.Join(content)
	for _, before := range texts(12) {
		got := scanned(t, stream(before), s)
		if len(got.found) != 1 || !bytes.Equal(got.found[0], content) {
			t.Fatalf("behind %s: %v", before, got)
		}
	}
}

func TestOtherContentsSurvive(t *testing.T) {
	r := random(11)
	a, b, c, d := r.content(5), r.content(9), r.content(6), r.content(280)
	front, _ := frames.Join(a, b)
	behind, _ := frames.Join(c, d)
	for range 300 {
		got := scanned(t, front, r.stream(int(r.next())), behind)
		n := len(got.found)
		if n < 4 || !slices.EqualFunc(got.found[:2], [][]byte{a, b}, bytes.Equal) || !slices.EqualFunc(got.found[n-2:], [][]byte{c, d}, bytes.Equal) {
			t.Fatalf("%v", got.found)
		}
	}
}

// R1 and R4

func TestMemory(t *testing.T) {
	s := stream(flag + zeros(40) + flag + ones(5) + zeros(36) + flag)
	kept := slices.Clone(s)
	content := []byte{255, 255, 255, 255, 255}
	first, _ := frames.Stuff(s)
	second, _ := frames.Stuff(s)
	frames.Unstuff(s)
	third, _ := frames.Frame(content)
	fourth, _ := frames.Frame(content)
	y := frames.New()
	found, _ := y.Feed(s)
	if !bytes.Equal(s, kept) || !bytes.Equal(content, []byte{255, 255, 255, 255, 255}) {
		t.Fatal("an argument was modified")
	}
	for _, x := range [][][]byte{{first, second}, {third, fourth}, {found[0], found[1]}} {
		old := slices.Clone(x[1])
		for i := range x[0] {
			x[0][i] = 9
		}
		if !bytes.Equal(x[1], old) {
			t.Fatal("two results share memory")
		}
	}
	if !bytes.Equal(s, kept) {
		t.Fatal("a result shares memory with an argument")
	}
}

// The scanner keeps none of the memory of its arguments or results.
func TestScannerMemory(t *testing.T) {
	y := frames.New()
	s := stream(flag + ones(5) + "0" + zeros(35))
	y.Feed(s)
	for i := range s {
		s[i] = 1
	}
	found, _ := y.Feed(stream(flag))
	if len(found) != 1 || !bytes.Equal(found[0], []byte{31, 0, 0, 0, 0}) {
		t.Fatal(found)
	}
	y.Feed(stream(zeros(40) + flag))
	if !bytes.Equal(found[0], []byte{31, 0, 0, 0, 0}) {
		t.Fatal("a result was modified")
	}
}
