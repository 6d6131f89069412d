package labels_test

import (
	"math"
	"regexp"
	"slices"
	"strconv"
	"strings"
	"testing"

	"pointcode/api"
	"pointcode/labels"
)

// edges are point codes around those at which something changes.
var edges = []api.Point{0, 1, 2, 7, 8, 9, 255, 256, 2047, 2048, 2049, 4114, 8191, 8192, 16382, 16383, 16384, 16385, 32767, 32768, 65534, 65535}

// form is the form of the texts that consist of three numbers.
var form = regexp.MustCompile(`^(0|[1-9][0-9]{0,2})-(0|[1-9][0-9]{0,2})-(0|[1-9][0-9]{0,2})$`)

// textOf returns the text of a point code, from the definition.
func textOf(p int) string {
	return strings.Join([]string{strconv.Itoa(p / 2048), strconv.Itoa(p / 8 % 256), strconv.Itoa(p % 8)}, "-")
}

// pointOf returns the point code of a text or the error, from the definition.
func pointOf(s string) (api.Point, api.Errno) {
	parts := form.FindStringSubmatch(s)
	if parts == nil {
		return 0, api.ErrForm
	}
	var n [3]int
	for i := range n {
		n[i], _ = strconv.Atoi(parts[i+1])
	}
	if n[0] > 7 || n[1] > 255 || n[2] > 7 {
		return 0, api.ErrArg
	}
	return api.Point(2048*n[0] + 8*n[1] + n[2]), api.OK
}

// parses checks Parse of a text, and whether Text inverts it.
func parses(t *testing.T, s string) {
	t.Helper()
	want, err := pointOf(s)
	p, e := labels.Parse(s)
	if p != want || e != err {
		t.Fatalf("Parse(%q) is %d, %d, not %d, %d", s, p, e, want, err)
	}
	if e == api.OK && labels.Text(p) != s {
		t.Fatalf("Parse(%q) is %d with the text %q", s, p, labels.Text(p))
	}
}

// P12.1, P12.6

func TestText(t *testing.T) {
	for p, want := range map[api.Point]string{
		0: "0-0-0", 1: "0-0-1", 7: "0-0-7", 8: "0-1-0", 2047: "0-255-7", 2048: "1-0-0", 2057: "1-1-1", 4114: "2-2-2",
		16383: "7-255-7", 16384: "", 16385: "", 32768: "", 65535: "",
	} {
		if got := labels.Text(p); got != want {
			t.Errorf("Text(%d) is %q, not %q", p, got, want)
		}
	}
}

func TestTextOfAll(t *testing.T) {
	for p := range 1 << 16 {
		got, want := labels.Text(api.Point(p)), ""
		if p <= api.MaxPoint {
			want = textOf(p)
		}
		if got != want {
			t.Fatalf("Text(%d) is %q, not %q", p, got, want)
		}
		q, e := labels.Parse(got)
		if p <= api.MaxPoint && (int(q) != p || e != api.OK) || p > api.MaxPoint && (q != 0 || e != api.ErrForm) {
			t.Fatalf("Parse(Text(%d)) is %d, %d", p, q, e)
		}
	}
}

func TestParse(t *testing.T) {
	for _, x := range []struct {
		s    string
		want api.Point
		err  api.Errno
	}{
		{"0-0-0", 0, api.OK},
		{"1-1-1", 2057, api.OK},
		{"2-2-2", 4114, api.OK},
		{"7-255-7", 16383, api.OK},
		{"0-300-1", 0, api.ErrArg},
		{"0-256-0", 0, api.ErrArg},
		{"8-0-0", 0, api.ErrArg},
		{"0-0-8", 0, api.ErrArg},
		{"0-0-256", 0, api.ErrArg},
		{"10-0-0", 0, api.ErrArg},
		{"256-0-0", 0, api.ErrArg},
		{"999-999-999", 0, api.ErrArg},
		{"", 0, api.ErrForm},
		{"-", 0, api.ErrForm},
		{"--", 0, api.ErrForm},
		{"---", 0, api.ErrForm},
		{"1", 0, api.ErrForm},
		{"1-2", 0, api.ErrForm},
		{"1-2-", 0, api.ErrForm},
		{"-1-2", 0, api.ErrForm},
		{"1--2", 0, api.ErrForm},
		{"1--2-3", 0, api.ErrForm},
		{"1-2--3", 0, api.ErrForm},
		{"-1-2-3", 0, api.ErrForm},
		{"1-2-3-", 0, api.ErrForm},
		{"1-2-3-4", 0, api.ErrForm},
		{"1-02-3", 0, api.ErrForm},
		{"01-2-3", 0, api.ErrForm},
		{"1-2-03", 0, api.ErrForm},
		{"00-0-0", 0, api.ErrForm},
		{"0-000-0", 0, api.ErrForm},
		{"1000-2-3", 0, api.ErrForm},
		{"1-1000-3", 0, api.ErrForm},
		{"1-2-1000", 0, api.ErrForm},
		{"18446744073709551617-2-3", 0, api.ErrForm},
		{"65537-1-1", 0, api.ErrForm},
		{"a-2-3", 0, api.ErrForm},
		{"1-b-3", 0, api.ErrForm},
		{"1-2-c", 0, api.ErrForm},
		{"1-1a-3", 0, api.ErrForm},
		{" 1-2-3", 0, api.ErrForm},
		{"1-2-3 ", 0, api.ErrForm},
		{"1-2-3\n", 0, api.ErrForm},
		{"1- 2-3", 0, api.ErrForm},
		{"1-2-3\x00", 0, api.ErrForm},
		{"+1-2-3", 0, api.ErrForm},
		{"1_2-3-4", 0, api.ErrForm},
		{"1.2.3", 0, api.ErrForm},
		{"1,2,3", 0, api.ErrForm},
		{"1\u20132\u20133", 0, api.ErrForm},
		{"\u0661-2-3", 0, api.ErrForm},
		{"\xb1-2-3", 0, api.ErrForm},
		// ErrForm is named first, also where a part in front is too great.
		{"8-02-3", 0, api.ErrForm},
		{"8-256-", 0, api.ErrForm},
		{"999-999-x", 0, api.ErrForm},
		{"9-2", 0, api.ErrForm},
		{"8-0-0-0", 0, api.ErrForm},
	} {
		if p, e := labels.Parse(x.s); p != x.want || e != x.err {
			t.Errorf("Parse(%q) is %d, %d, not %d, %d", x.s, p, e, x.want, x.err)
		}
		parses(t, x.s)
	}
}

// TestParseOfShortTexts gives all texts of up to seven bytes of an alphabet.
func TestParseOfShortTexts(t *testing.T) {
	var longer func(s string, n int)
	longer = func(s string, n int) {
		parses(t, s)
		if n == 0 {
			return
		}
		for _, c := range "0278-/" {
			longer(s+string(c), n-1)
		}
	}
	longer("", 7)
}

// TestParseOfBytes replaces every byte of some texts by all others.
func TestParseOfBytes(t *testing.T) {
	for _, s := range []string{"0-0-0", "1-1-1", "7-255-7", "3-20-5", "999-100-100"} {
		for i := range len(s) {
			for c := range 256 {
				parses(t, s[:i]+string([]byte{byte(c)})+s[i+1:])
				parses(t, s[:i]+string([]byte{byte(c)})+s[i:])
			}
			parses(t, s[:i])
			parses(t, s[i:])
			parses(t, s[:i]+s[i+1:])
		}
	}
}

// TestParseOfNumbers gives each part all numbers of up to four digits.
func TestParseOfNumbers(t *testing.T) {
	for n := range 10000 {
		s := strconv.Itoa(n)
		for _, a := range []string{"0", "7", "8", "010"} {
			for _, b := range []string{"0", "7", "8", "255", "256", "300", ""} {
				parses(t, s+"-"+b+"-"+a)
				parses(t, a+"-"+s+"-"+b)
				parses(t, b+"-"+a+"-"+s)
			}
		}
	}
}

func TestParseOfLongTexts(t *testing.T) {
	for _, s := range []string{"-", "0", "1-", "1-2-3", "0-0-", "\xff"} {
		long := strings.Repeat(s, 1<<18)
		if p, e := labels.Parse(long); p != 0 || e != api.ErrForm {
			t.Errorf("Parse of %q many times is %d, %d", s, p, e)
		}
		if p, e := labels.Parse("1-2-" + long); p != 0 || e != api.ErrForm {
			t.Errorf("Parse of 1-2- and %q many times is %d, %d", s, p, e)
		}
	}
}

// P12.3, P12.6

func TestRotate(t *testing.T) {
	if got := labels.Rotate(6); got != 9 {
		t.Errorf("Rotate(6) is %d", got)
	}
	for sel := range 256 {
		got := labels.Rotate(uint8(sel))
		if want := 4*(sel%4) + sel/4%4; int(got) != want {
			t.Errorf("Rotate(%d) is %d, not %d", sel, got, want)
		}
		if twice := labels.Rotate(got); int(twice) != sel%16 {
			t.Errorf("Rotate twice of %d is %d", sel, twice)
		}
	}
}

// P12.4

func TestLink(t *testing.T) {
	for _, x := range []struct {
		a, b api.Point
		code uint8
		want api.Link
		err  api.Errno
	}{
		{4, 9, 15, api.Link{A: 4, B: 9, Code: 15}, api.OK},
		{9, 4, 15, api.Link{A: 4, B: 9, Code: 15}, api.OK},
		{0, 16383, 0, api.Link{A: 0, B: 16383}, api.OK},
		{16383, 0, 1, api.Link{A: 0, B: 16383, Code: 1}, api.OK},
		{4, 4, 0, api.Link{}, api.ErrArg},
		{0, 0, 0, api.Link{}, api.ErrArg},
		{16384, 1, 0, api.Link{}, api.ErrArg},
		{1, 16384, 0, api.Link{}, api.ErrArg},
		{16384, 16384, 0, api.Link{}, api.ErrArg},
		{16384, 65535, 0, api.Link{}, api.ErrArg},
		{1, 2, 16, api.Link{}, api.ErrArg},
		{1, 2, 255, api.Link{}, api.ErrArg},
		{2, 2, 16, api.Link{}, api.ErrArg},
	} {
		if l, e := labels.Link(x.a, x.b, x.code); l != x.want || e != x.err {
			t.Errorf("Link(%d, %d, %d) is %v, %d, not %v, %d", x.a, x.b, x.code, l, e, x.want, x.err)
		}
	}
}

// TestLinkOfMany gives all pairs of edges all codes.
func TestLinkOfMany(t *testing.T) {
	for _, a := range edges {
		for _, b := range edges {
			for code := range 256 {
				want, err := api.Link{A: a, B: b, Code: uint8(code)}, api.OK
				if a > b {
					want.A, want.B = b, a
				}
				if a == b || a > 16383 || b > 16383 || code > 15 {
					want, err = api.Link{}, api.ErrArg
				}
				if l, e := labels.Link(a, b, uint8(code)); l != want || e != err {
					t.Fatalf("Link(%d, %d, %d) is %v, %d, not %v, %d", a, b, code, l, e, want, err)
				}
			}
		}
	}
}

// links returns links, valid or not, in no order.
func links() []api.Link {
	var out []api.Link
	for _, code := range []uint8{15, 0, 255, 1, 128, 16} {
		for _, b := range []api.Point{3, 0, 16383, 1, 2, 65535, 16384, 256} {
			for _, a := range []api.Point{1, 65535, 0, 2, 16384, 3, 32768} {
				out = append(out, api.Link{A: a, B: b, Code: code})
			}
		}
	}
	return out
}

// orderOf returns the order of two links, from the definition.
func orderOf(a, b api.Link) int {
	number := func(l api.Link) int { return int(l.A)<<24 + int(l.B)<<8 + int(l.Code) }
	switch d := number(a) - number(b); {
	case d < 0:
		return -1
	case d > 0:
		return 1
	}
	return 0
}

func TestCompare(t *testing.T) {
	for _, x := range []struct {
		a, b api.Link
		want int
	}{
		{api.Link{}, api.Link{}, 0},
		{api.Link{A: 1, B: 2, Code: 3}, api.Link{A: 1, B: 2, Code: 3}, 0},
		{api.Link{A: 1, B: 9, Code: 9}, api.Link{A: 2, B: 3}, -1},
		{api.Link{A: 2, B: 3}, api.Link{A: 1, B: 9, Code: 9}, 1},
		{api.Link{A: 1, B: 3, Code: 9}, api.Link{A: 1, B: 4}, -1},
		{api.Link{A: 1, B: 4}, api.Link{A: 1, B: 3, Code: 9}, 1},
		{api.Link{A: 1, B: 3}, api.Link{A: 1, B: 3, Code: 1}, -1},
		{api.Link{A: 1, B: 3, Code: 15}, api.Link{A: 1, B: 3}, 1},
		{api.Link{A: 65535}, api.Link{}, 1},
		{api.Link{Code: 255}, api.Link{B: 65535}, -1},
	} {
		if got := labels.Compare(x.a, x.b); got != x.want {
			t.Errorf("Compare(%v, %v) is %d, not %d", x.a, x.b, got, x.want)
		}
	}
	for _, a := range links() {
		for _, b := range links() {
			if got, want := labels.Compare(a, b), orderOf(a, b); got != want {
				t.Fatalf("Compare(%v, %v) is %d, not %d", a, b, got, want)
			}
		}
	}
}

func TestCompareSorts(t *testing.T) {
	want := []api.Link{{A: 1, B: 3}, {A: 1, B: 3, Code: 1}, {A: 1, B: 9}, {A: 2, B: 3}, {A: 2, B: 3, Code: 15}, {A: 16382, B: 16383}}
	got := slices.Clone(want)
	slices.Reverse(got)
	slices.SortFunc(got, labels.Compare)
	if !slices.Equal(got, want) {
		t.Errorf("%v, not %v", got, want)
	}
}

func TestOther(t *testing.T) {
	for _, x := range []struct {
		l    api.Link
		p    api.Point
		want api.Point
		ok   bool
	}{
		{api.Link{A: 4, B: 9, Code: 15}, 4, 9, true},
		{api.Link{A: 4, B: 9, Code: 15}, 9, 4, true},
		{api.Link{A: 4, B: 9}, 5, 0, false},
		{api.Link{A: 4, B: 9}, 0, 0, false},
		{api.Link{A: 4, B: 9}, 15, 0, false},
		{api.Link{A: 0, B: 9}, 0, 9, true},
		{api.Link{A: 0, B: 9}, 9, 0, true},
		{api.Link{A: 9, B: 4}, 9, 4, true},
		{api.Link{A: 7, B: 7}, 7, 0, false},
		{api.Link{A: 7, B: 7}, 8, 0, false},
		{api.Link{}, 0, 0, false},
		{api.Link{}, 1, 0, false},
		{api.Link{A: 1, B: 65535}, 1, 65535, true},
		{api.Link{A: 1, B: 65535}, 65535, 1, true},
		{api.Link{A: 1, B: 2}, 16384, 0, false},
	} {
		if p, ok := labels.Other(x.l, x.p); p != x.want || ok != x.ok {
			t.Errorf("Other(%v, %d) is %d, %v, not %d, %v", x.l, x.p, p, ok, x.want, x.ok)
		}
	}
}

// TestOtherOfMany gives all ends and points among the edges.
func TestOtherOfMany(t *testing.T) {
	for _, l := range links() {
		for _, p := range edges {
			var others []api.Point
			for _, end := range []api.Point{l.A, l.B} {
				if end != p {
					others = append(others, end)
				}
			}
			want, is := api.Point(0), len(others) == 1
			if is {
				want = others[0]
			}
			if got, ok := labels.Other(l, p); got != want || ok != is {
				t.Fatalf("Other(%v, %d) is %d, %v, not %d, %v", l, p, got, ok, want, is)
			}
		}
	}
}

// TestOtherOfLinks checks that Other leads from each end of every valid link to the other one.
func TestOtherOfLinks(t *testing.T) {
	for _, a := range edges {
		for _, b := range edges {
			l, e := labels.Link(a, b, 5)
			if e != api.OK {
				continue
			}
			to, first := labels.Other(l, a)
			back, second := labels.Other(l, to)
			if to != b || back != a || !first || !second {
				t.Fatalf("the ends of %v: %d, %v and %d, %v", l, to, first, back, second)
			}
		}
	}
}

// P1: the greatest and least numbers that the types have.

func TestGreatestNumbers(t *testing.T) {
	const p, code = math.MaxUint16, math.MaxUint8
	if labels.Text(p) != "" {
		t.Error("Text of the greatest number")
	}
	if l, e := labels.Link(p, p-1, code); l != (api.Link{}) || e != api.ErrArg {
		t.Error("Link of the greatest numbers", l, e)
	}
	greatest := api.Link{A: p, B: p, Code: code}
	if labels.Compare(greatest, api.Link{}) != 1 || labels.Compare(api.Link{}, greatest) != -1 || labels.Compare(greatest, greatest) != 0 {
		t.Error("Compare of the greatest link")
	}
}
