package bits_test

import (
	"bytes"
	"math"
	"slices"
	"strconv"
	"strings"
	"testing"

	"pointcode/api"
	"pointcode/bits"
)

// stream returns the stream of a text; other digits than 0 and 1 become invalid elements.
func stream(s string) []byte {
	out := make([]byte, 0, len(s))
	for i := range len(s) {
		out = append(out, s[i]-'0')
	}
	return out
}

// long returns a stream of n zeros whose elements at the given positions are invalid.
func long(n int, invalid ...int) []byte {
	out := make([]byte, n)
	for _, i := range invalid {
		out[i] = 2
	}
	return out
}

// sequences returns all sequences of at most n of the bytes 0 to most.
func sequences(n int, most byte) [][]byte {
	out, last := [][]byte{{}}, [][]byte{{}}
	for range n {
		var next [][]byte
		for _, s := range last {
			for b := byte(0); b <= most; b++ {
				next = append(next, append(slices.Clone(s), b))
			}
		}
		out, last = append(out, next...), next
	}
	return out
}

// invalidStreams contains streams with their errors.
var invalidStreams = []struct {
	name string
	s    []byte
	e    api.Errno
}{
	{"one element 2", stream("2"), api.ErrArg},
	{"the last element is invalid", stream("00000003"), api.ErrArg},
	{"the first element is invalid", stream("90000000"), api.ErrArg},
	{"an element 255", []byte{0, 255, 1}, api.ErrArg},
	{"a digit instead of an element", []byte("1"), api.ErrArg},
	{"an invalid element at the limit", long(api.MaxBits, api.MaxBits-1), api.ErrArg},
	{"too long", long(api.MaxBits + 1), api.ErrLimit},
	{"too long by an octet", long(api.MaxBits + 8), api.ErrLimit},
	{"too long and an invalid element", long(api.MaxBits+1, 0), api.ErrLimit},
}

// P1.1

func TestCheck(t *testing.T) {
	for _, x := range invalidStreams {
		if e := bits.Check(x.s); e != x.e {
			t.Errorf("%s: %d, want %d", x.name, e, x.e)
		}
	}
	for _, s := range [][]byte{nil, {}, {0}, {1}, {1, 0, 1}, long(api.MaxBits)} {
		if e := bits.Check(s); e != api.OK {
			t.Errorf("a valid stream of %d elements: %d", len(s), e)
		}
	}
	for v := range 256 {
		want := api.ErrArg
		if v < 2 {
			want = api.OK
		}
		if e := bits.Check([]byte{0, byte(v)}); e != want {
			t.Errorf("element %d: %d, want %d", v, e, want)
		}
	}
}

func TestOf(t *testing.T) {
	for want, b := range map[string][]byte{
		"":                         nil,
		"10100000":                 {5},
		"1000000000000001":         {1, 128},
		"000000001111111101111110": {0, 255, 126},
		"0100110000110010":         {50, 76},
	} {
		if got := bits.Of(b); !bytes.Equal(got, stream(want)) {
			t.Errorf("Of(%v) is %v", b, got)
		}
	}
	if got := bits.Of([]byte{}); len(got) != 0 {
		t.Errorf("Of no octets is %v", got)
	}
}

func TestOfEveryOctet(t *testing.T) {
	for v := range 256 {
		s := bits.Of([]byte{byte(v)})
		sum := 0
		for i, b := range s {
			sum += int(b) << i
		}
		if len(s) != 8 || sum != v || bits.Check(s) != api.OK {
			t.Errorf("Of(%d) is %v", v, s)
		}
	}
}

func TestOfMoreThanAStream(t *testing.T) {
	b := make([]byte, api.MaxBits/8+1)
	b[len(b)-1] = 128
	s := bits.Of(b)
	if len(s) != api.MaxBits+8 || s[len(s)-1] != 1 || slices.Contains(s[:len(s)-1], 1) {
		t.Errorf("%d bits", len(s))
	}
}

func TestOctets(t *testing.T) {
	for s, want := range map[string][]byte{
		"":                         {},
		"10000000":                 {1},
		"1000000000000001":         {1, 128},
		"000000001111111101111110": {0, 255, 126},
	} {
		if got, e := bits.Octets(stream(s)); e != api.OK || !bytes.Equal(got, want) {
			t.Errorf("Octets(%s) is %v, %d", s, got, e)
		}
	}
	if got, e := bits.Octets(nil); e != api.OK || len(got) != 0 {
		t.Errorf("Octets of nil is %v, %d", got, e)
	}
	if got, e := bits.Octets(long(api.MaxBits)); e != api.OK || len(got) != api.MaxBits/8 {
		t.Errorf("Octets at the limit: %d octets, %d", len(got), e)
	}
}

func TestOctetsErrors(t *testing.T) {
	for _, x := range invalidStreams {
		if got, e := bits.Octets(x.s); e != x.e || len(got) != 0 {
			t.Errorf("%s: %v, %d, want %d", x.name, got, e, x.e)
		}
	}
	for n := range 25 {
		want := api.ErrWidth
		if n%8 == 0 {
			want = api.OK
		}
		if got, e := bits.Octets(long(n)); e != want || e != api.OK && len(got) != 0 {
			t.Errorf("%d elements: %v, %d, want %d", n, got, e, want)
		}
	}
}

// P1.2

func TestPut(t *testing.T) {
	one63 := strings.Repeat("0", 63) + "1"
	for _, x := range []struct {
		s     string
		v     uint64
		width int
		want  string
	}{
		{"10", 5, 3, "10101"},
		{"", 5, 3, "101"},
		{"1", 6, 4, "10110"},
		{"1", 0, 0, "1"},
		{"", 0, 0, ""},
		{"", 0, 1, "0"},
		{"", 1, 1, "1"},
		{"0", 7, 3, "0111"},
		{"1", 1 << 63, 64, "1" + one63},
		{"", math.MaxUint64, 64, strings.Repeat("1", 64)},
		{"", 1<<63 - 1, 63, strings.Repeat("1", 63)},
		{"", 0, 64, strings.Repeat("0", 64)},
	} {
		got, e := bits.Put(stream(x.s), x.v, x.width)
		if e != api.OK || !bytes.Equal(got, stream(x.want)) {
			t.Errorf("Put(%s, %d, %d) is %v, %d", x.s, x.v, x.width, got, e)
		}
	}
}

func TestPutErrors(t *testing.T) {
	for _, x := range invalidStreams {
		for _, width := range []int{0, 1, 65, -1} {
			if got, e := bits.Put(x.s, 1, width); e != x.e || len(got) != 0 {
				t.Errorf("%s, width %d: %d elements, %d, want %d", x.name, width, len(got), e, x.e)
			}
		}
	}
	for _, width := range []int{-1, 65, -64, 128, math.MaxInt, math.MinInt} {
		if got, e := bits.Put(nil, 0, width); e != api.ErrArg || len(got) != 0 {
			t.Errorf("width %d: %v, %d", width, got, e)
		}
	}
}

func TestPutGreatestValue(t *testing.T) {
	for width := range 64 {
		first := uint64(1) << width
		if got, e := bits.Put([]byte{1}, first, width); e != api.ErrArg || len(got) != 0 {
			t.Errorf("width %d: %v, %d", width, got, e)
		}
		if got, e := bits.Put([]byte{1}, math.MaxUint64, width); e != api.ErrArg || len(got) != 0 {
			t.Errorf("width %d: %v, %d", width, got, e)
		}
		if got, e := bits.Put([]byte{0}, first-1, width); e != api.OK || len(got) != width+1 || bits.Run(got, 1) != width {
			t.Errorf("width %d: %v, %d", width, got, e)
		}
	}
}

func TestPutLimit(t *testing.T) {
	for _, x := range []struct {
		n     int
		v     uint64
		width int
		e     api.Errno
	}{
		{api.MaxBits - 64, 1, 64, api.OK},
		{api.MaxBits - 63, 1, 64, api.ErrLimit},
		{api.MaxBits - 3, 7, 3, api.OK},
		{api.MaxBits - 3, 7, 4, api.ErrLimit},
		{api.MaxBits, 0, 0, api.OK},
		{api.MaxBits, 0, 1, api.ErrLimit},
		{api.MaxBits, 2, 1, api.ErrArg},
		{api.MaxBits, 0, 65, api.ErrArg},
	} {
		got, e := bits.Put(long(x.n), x.v, x.width)
		if e != x.e || e == api.OK && len(got) != x.n+x.width || e != api.OK && len(got) != 0 {
			t.Errorf("%d elements, %d, %d: %d elements, %d, want %d", x.n, x.v, x.width, len(got), e, x.e)
		}
	}
}

func TestGet(t *testing.T) {
	for _, x := range []struct {
		s         string
		at, width int
		want      uint64
	}{
		{"10101", 2, 3, 5},
		{"10101", 0, 5, 21},
		{"10101", 1, 3, 2},
		{"10101", 4, 1, 1},
		{"10101", 3, 1, 0},
		{"10101", 5, 0, 0},
		{"10101", 2, 0, 0},
		{"", 0, 0, 0},
		{strings.Repeat("1", 64), 0, 64, math.MaxUint64},
		{"0" + strings.Repeat("0", 63) + "1", 1, 64, 1 << 63},
		{strings.Repeat("1", 70), 6, 63, 1<<63 - 1},
	} {
		if got, e := bits.Get(stream(x.s), x.at, x.width); e != api.OK || got != x.want {
			t.Errorf("Get(%s, %d, %d) is %d, %d", x.s, x.at, x.width, got, e)
		}
	}
	if got, e := bits.Get(nil, 0, 0); e != api.OK || got != 0 {
		t.Errorf("Get of nil is %d, %d", got, e)
	}
}

func TestGetErrors(t *testing.T) {
	for _, x := range invalidStreams {
		for _, width := range []int{0, 1, 65, -1} {
			for _, at := range []int{0, -1, math.MaxInt} {
				if got, e := bits.Get(x.s, at, width); e != x.e || got != 0 {
					t.Errorf("%s, at %d, width %d: %d, %d, want %d", x.name, at, width, got, e, x.e)
				}
			}
		}
	}
	for _, x := range []struct {
		at, width int
		e         api.Errno
	}{
		{-1, 1, api.ErrArg},
		{-1, 0, api.ErrArg},
		{math.MinInt, 64, api.ErrArg},
		{0, -1, api.ErrArg},
		{0, 65, api.ErrArg},
		{0, math.MaxInt, api.ErrArg},
		{0, math.MinInt, api.ErrArg},
		{9, 65, api.ErrArg},
		{9, -1, api.ErrArg},
		{6, 0, api.ErrWidth},
		{5, 1, api.ErrWidth},
		{4, 2, api.ErrWidth},
		{0, 6, api.ErrWidth},
		{0, 64, api.ErrWidth},
		{math.MaxInt, 0, api.ErrWidth},
		{math.MaxInt, 1, api.ErrWidth},
		{math.MaxInt, 64, api.ErrWidth},
	} {
		if got, e := bits.Get(stream("11111"), x.at, x.width); e != x.e || got != 0 {
			t.Errorf("Get(11111, %d, %d) is %d, %d, want %d", x.at, x.width, got, e, x.e)
		}
	}
}

// P1.3

func TestFlip(t *testing.T) {
	for _, x := range []struct {
		s    string
		at   []int
		want string
	}{
		{"000", []int{2, 0, 2}, "100"},
		{"000", []int{2, 2, 2}, "001"},
		{"0110", []int{0, 1, 2, 3}, "1001"},
		{"0110", []int{3, 0}, "1111"},
		{"0110", []int{}, "0110"},
		{"0110", nil, "0110"},
		{"", nil, ""},
	} {
		if got, e := bits.Flip(stream(x.s), x.at...); e != api.OK || !bytes.Equal(got, stream(x.want)) {
			t.Errorf("Flip(%s, %v) is %v, %d", x.s, x.at, got, e)
		}
	}
	if got, e := bits.Flip(long(api.MaxBits), api.MaxBits-1); e != api.OK || bits.Run(got, 1) != 1 || got[api.MaxBits-1] != 1 {
		t.Errorf("at the limit: %d elements, %d", len(got), e)
	}
}

func TestFlipErrors(t *testing.T) {
	for _, x := range invalidStreams {
		for _, at := range []int{0, -1, math.MaxInt} {
			if got, e := bits.Flip(x.s, at); e != x.e || len(got) != 0 {
				t.Errorf("%s, at %d: %d elements, %d, want %d", x.name, at, len(got), e, x.e)
			}
		}
	}
	for _, at := range [][]int{{-1}, {4}, {0, 4}, {4, 0}, {0, 1, -1}, {math.MaxInt}, {math.MinInt}} {
		if got, e := bits.Flip(stream("0110"), at...); e != api.ErrArg || len(got) != 0 {
			t.Errorf("at %v: %v, %d", at, got, e)
		}
	}
	if got, e := bits.Flip(nil, 0); e != api.ErrArg || len(got) != 0 {
		t.Errorf("an empty stream: %v, %d", got, e)
	}
}

func TestApart(t *testing.T) {
	for _, x := range []struct {
		a, b string
		want []int
	}{
		{"011", "110", []int{0, 2}},
		{"0", "1", []int{0}},
		{"1", "0", []int{0}},
		{"0101", "0101", nil},
		{"0101", "1010", []int{0, 1, 2, 3}},
		{"00000", "00001", []int{4}},
		{"", "", nil},
	} {
		if got, e := bits.Apart(stream(x.a), stream(x.b)); e != api.OK || !slices.Equal(got, x.want) {
			t.Errorf("Apart(%s, %s) is %v, %d", x.a, x.b, got, e)
		}
	}
	if got, e := bits.Apart(nil, []byte{}); e != api.OK || len(got) != 0 {
		t.Errorf("nil and empty: %v, %d", got, e)
	}
}

func TestApartErrors(t *testing.T) {
	for _, x := range invalidStreams {
		if got, e := bits.Apart(x.s, stream("01")); e != x.e || len(got) != 0 {
			t.Errorf("a: %s: %v, %d, want %d", x.name, got, e, x.e)
		}
		if got, e := bits.Apart(stream("01"), x.s); e != x.e || len(got) != 0 {
			t.Errorf("b: %s: %v, %d, want %d", x.name, got, e, x.e)
		}
		for _, y := range invalidStreams {
			if got, e := bits.Apart(x.s, y.s); e != x.e || len(got) != 0 {
				t.Errorf("a: %s, b: %s: %v, %d, want %d", x.name, y.name, got, e, x.e)
			}
		}
	}
	for _, x := range [][2]string{{"", "0"}, {"0", ""}, {"0110", "011"}, {"110", "1101"}} {
		if got, e := bits.Apart(stream(x[0]), stream(x[1])); e != api.ErrWidth || len(got) != 0 {
			t.Errorf("Apart(%s, %s) is %v, %d", x[0], x[1], got, e)
		}
	}
}

// P1.4

func TestRun(t *testing.T) {
	for _, x := range []struct {
		s    []byte
		v    byte
		want int
	}{
		{stream("01101"), 1, 2},
		{stream("01101"), 0, 1},
		{stream("1101110"), 1, 3},
		{stream("1110110"), 1, 3},
		{stream("000100"), 0, 3},
		{stream("001000"), 0, 3},
		{stream("11111"), 1, 5},
		{stream("11111"), 0, 0},
		{stream("0"), 1, 0},
		{stream("1"), 1, 1},
		{stream("01101"), 2, 0},
		{[]byte{7, 7, 255, 255, 255, 0, 7}, 255, 3},
		{[]byte{7, 7, 255, 255, 255, 0, 7}, 7, 2},
		{[]byte{7, 7, 255, 255, 255, 0, 7}, 0, 1},
		{[]byte("aab"), 'a', 2},
		{nil, 0, 0},
		{nil, 1, 0},
		{[]byte{}, 0, 0},
		{long(api.MaxBits+9, api.MaxBits+8), 0, api.MaxBits + 8},
		{long(api.MaxBits+9, api.MaxBits+8), 2, 1},
	} {
		if got := bits.Run(x.s, x.v); got != x.want {
			t.Errorf("%d elements, %d: %d, want %d", len(x.s), x.v, got, x.want)
		}
	}
}

// longest is Run by its definition: no shorter run is preferred, and no longer one exists.
func longest(s []byte, v byte) int {
	for n := len(s); n > 0; n-- {
		if bytes.Contains(s, bytes.Repeat([]byte{v}, n)) {
			return n
		}
	}
	return 0
}

func TestRunOfEverySequence(t *testing.T) {
	for _, s := range sequences(7, 2) {
		for v := range byte(4) {
			if got, want := bits.Run(s, v), longest(s, v); got != want {
				t.Fatalf("Run(%v, %d) is %d, want %d", s, v, got, want)
			}
		}
	}
}

// P1.5

func TestText(t *testing.T) {
	for want, s := range map[string][]byte{"": nil, "0": {0}, "1": {1}, "10": {1, 0}, "0011": {0, 0, 1, 1}} {
		if got, e := bits.Text(s); e != api.OK || got != want {
			t.Errorf("Text(%v) is %q, %d", s, got, e)
		}
	}
	if got, e := bits.Text([]byte{}); e != api.OK || got != "" {
		t.Errorf("Text of an empty stream is %q, %d", got, e)
	}
	if got, e := bits.Text(long(api.MaxBits)); e != api.OK || got != strings.Repeat("0", api.MaxBits) {
		t.Errorf("at the limit: %d characters, %d", len(got), e)
	}
	for _, x := range invalidStreams {
		if got, e := bits.Text(x.s); e != x.e || got != "" {
			t.Errorf("%s: %d characters, %d, want %d", x.name, len(got), e, x.e)
		}
	}
}

func TestParse(t *testing.T) {
	for s, want := range map[string][]byte{"": {}, "0": {0}, "1": {1}, "10": {1, 0}, "0011": {0, 0, 1, 1}} {
		if got, e := bits.Parse(s); e != api.OK || !bytes.Equal(got, want) {
			t.Errorf("Parse(%q) is %v, %d", s, got, e)
		}
	}
	if got, e := bits.Parse(strings.Repeat("1", api.MaxBits)); e != api.OK || bits.Run(got, 1) != api.MaxBits {
		t.Errorf("at the limit: %d elements, %d", len(got), e)
	}
}

func TestParseErrors(t *testing.T) {
	most := strings.Repeat("0", api.MaxBits-1)
	for s, want := range map[string]api.Errno{
		"012":           api.ErrForm,
		"2":             api.ErrForm,
		"01 ":           api.ErrForm,
		" 01":           api.ErrForm,
		"0\n":           api.ErrForm,
		"0x1":           api.ErrForm,
		"\x00":          api.ErrForm,
		"\x01":          api.ErrForm,
		"0\xff1":        api.ErrForm,
		"\xc0\xb0":      api.ErrForm,
		"\uff11":        api.ErrForm,
		"/":             api.ErrForm,
		most + "2":      api.ErrForm,
		most + "00":     api.ErrLimit,
		most + "02":     api.ErrLimit,
		"\u0660" + most: api.ErrLimit,
	} {
		if got, e := bits.Parse(s); e != want || len(got) != 0 {
			t.Errorf("%.20q, %d bytes: %d elements, %d, want %d", s, len(s), len(got), e, want)
		}
	}
	for v := range 256 {
		want := api.ErrForm
		if v == '0' || v == '1' {
			want = api.OK
		}
		if _, e := bits.Parse("1" + string([]byte{byte(v)})); e != want {
			t.Errorf("byte %d: %d, want %d", v, e, want)
		}
	}
}

// P1.6

// octetSequences returns sequences of octets that contain every octet at several places.
func octetSequences() [][]byte {
	out := [][]byte{nil, {0}, {255}, {1, 128}, {126, 126, 126}, bytes.Repeat([]byte{0xa5}, 20)}
	for v := range 256 {
		out = append(out, []byte{byte(v)}, []byte{byte(v), byte(255 - v), byte(7 * v)})
	}
	return out
}

func TestOctetsInvertsOf(t *testing.T) {
	for _, b := range octetSequences() {
		if got, e := bits.Octets(bits.Of(b)); e != api.OK || !bytes.Equal(got, b) {
			t.Errorf("Octets(Of(%v)) is %v, %d", b, got, e)
		}
	}
	for v := range 1 << 16 {
		s, _ := bits.Put(nil, uint64(v), 16)
		b, e := bits.Octets(s)
		if e != api.OK || !bytes.Equal(bits.Of(b), s) || !bytes.Equal(b, []byte{byte(v), byte(v >> 8)}) {
			t.Fatalf("Octets(%v) is %v, %d", s, b, e)
		}
	}
}

func TestOfConcatenates(t *testing.T) {
	for _, a := range octetSequences() {
		for _, b := range [][]byte{nil, {0}, {1, 2, 3}, {255, 128}} {
			both := append(slices.Clone(a), b...)
			if !bytes.Equal(bits.Of(both), append(bits.Of(a), bits.Of(b)...)) {
				t.Errorf("Of(%v) is %v", both, bits.Of(both))
			}
		}
	}
}

func TestParseInvertsText(t *testing.T) {
	for _, s := range sequences(10, 1) {
		x, e := bits.Text(s)
		got, f := bits.Parse(x)
		if e != api.OK || f != api.OK || !bytes.Equal(got, s) {
			t.Fatalf("%v becomes %q and %v", s, x, got)
		}
		if y, _ := bits.Text(got); y != x {
			t.Fatalf("%q becomes %q", x, y)
		}
	}
}

func TestGetReturnsWhatPutAppended(t *testing.T) {
	values := []uint64{0, 1, 2, 3, 5, 127, 128, 255, 256, 1<<31 - 1, 1 << 32, 0x0123456789abcdef, 0xfedcba9876543210, 1 << 63, math.MaxUint64}
	for width := range 65 {
		mask := ^(uint64(math.MaxUint64) << width)
		for _, s := range sequences(3, 1) {
			for _, v := range values {
				put, e := bits.Put(s, v&mask, width)
				got, f := bits.Get(put, len(s), width)
				if e != api.OK || f != api.OK || got != v&mask || len(put) != len(s)+width || !bytes.HasPrefix(put, s) {
					t.Fatalf("Put(%v, %d, %d) is %v, %d; Get is %d, %d", s, v&mask, width, put, e, got, f)
				}
			}
		}
	}
}

func TestFlipAtWhatIsApart(t *testing.T) {
	all := sequences(6, 1)
	for _, a := range all {
		for _, b := range all {
			at, e := bits.Apart(a, b)
			if len(a) != len(b) {
				if e != api.ErrWidth {
					t.Fatalf("Apart(%v, %v): %d", a, b, e)
				}
				continue
			}
			got, f := bits.Flip(a, at...)
			if e != api.OK || f != api.OK || !bytes.Equal(got, b) || !slices.IsSorted(at) {
				t.Fatalf("Apart(%v, %v) is %v, %d; Flip is %v, %d", a, b, at, e, got, f)
			}
		}
	}
}

// R1, R4

// roomy returns the bytes of b with spare capacity that a careless append would overwrite.
func roomy(b ...byte) []byte {
	out := make([]byte, len(b), len(b)+200)
	copy(out, b)
	spare := out[:cap(out)]
	for i := len(b); i < len(spare); i++ {
		spare[i] = 9
	}
	return out
}

// results returns what the functions that return bytes make of the octets b, which are a stream as well.
func results(b []byte) map[string][]byte {
	out := map[string][]byte{"Of": bits.Of(b)}
	out["Octets"], _ = bits.Octets(b)
	out["Flip"], _ = bits.Flip(b, 0, 1, 1)
	out["Flip nothing"], _ = bits.Flip(b)
	for width := range 65 {
		out["Put "+strconv.Itoa(width)], _ = bits.Put(b, 0, width)
	}
	x, _ := bits.Text(b)
	out["Parse"], _ = bits.Parse(x)
	return out
}

func TestArgumentsAreNotModified(t *testing.T) {
	original := []byte{1, 0, 0, 1, 1, 1, 0, 1}
	b := roomy(original...)
	for name, got := range results(b) {
		if len(got) == 0 {
			t.Errorf("%s returns nothing", name)
		}
		for i := range got {
			got[i] = 7
		}
	}
	if !bytes.Equal(b, original) {
		t.Errorf("the argument is now %v", b)
	}
	if i := slices.IndexFunc(b[len(b):cap(b)], func(v byte) bool { return v != 9 }); i >= 0 {
		t.Errorf("the memory behind the argument is changed at %d", i)
	}
	at := []int{2, 0, 2}
	bits.Flip(b, at...)
	if !slices.Equal(at, []int{2, 0, 2}) {
		t.Errorf("the positions are now %v", at)
	}
}

func TestApartAndRunModifyNothing(t *testing.T) {
	a, b := []byte{1, 0, 1}, []byte{0, 0, 0}
	bits.Apart(a, b)
	bits.Run(a, 1)
	bits.Get(a, 0, 3)
	bits.Check(a)
	if !bytes.Equal(a, []byte{1, 0, 1}) || !bytes.Equal(b, []byte{0, 0, 0}) {
		t.Errorf("the arguments are now %v and %v", a, b)
	}
}

func TestCapacityIsLength(t *testing.T) {
	for n := 8; n <= 64; n += 8 {
		for name, got := range results(roomy(long(n)...)) {
			if cap(got) != len(got) {
				t.Errorf("%s of %d elements: length %d, capacity %d", name, n, len(got), cap(got))
			}
		}
	}
	for n := range 40 {
		at, e := bits.Apart(long(n), bytes.Repeat([]byte{1}, n))
		if e != api.OK || len(at) != n || cap(at) != n {
			t.Errorf("Apart of %d elements: length %d, capacity %d", n, len(at), cap(at))
		}
		s, _ := bits.Parse(strings.Repeat("1", n))
		if cap(s) != n {
			t.Errorf("Parse of %d bytes: capacity %d", n, cap(s))
		}
	}
}
