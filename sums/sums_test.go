package sums_test

import (
	"bytes"
	"math/bits"
	"testing"

	"pointcode/api"
	"pointcode/sums"
)

const (
	start   = 0xFFFF
	residue = 0xF0B8
	most    = 282 // the greatest number of octets of which the changes are promised to be found
)

// extended returns the register behind octets, bit by bit as the definition says.
func extended(r uint16, b ...byte) uint16 {
	for _, v := range b {
		for i := range 8 {
			r ^= uint16(v >> i & 1)
			low := r & 1
			r >>= 1
			if low == 1 {
				r ^= 0x8408
			}
		}
	}
	return r
}

// random is a generator of bytes that is the same in every run.
type random uint32

func (r *random) next() byte {
	*r = *r*1664525 + 1013904223
	return byte(*r >> 24)
}

// octets returns n octets.
func (r *random) octets(n int) []byte {
	out := make([]byte, n)
	for i := range out {
		out[i] = r.next()
	}
	return out
}

// below returns a number below n.
func (r *random) below(n int) int {
	return (int(r.next())<<16 | int(r.next())<<8 | int(r.next())) % n
}

// protected returns octets followed by their check sequence, from the definitions.
func protected(b []byte) []byte {
	s := ^extended(start, b...)
	return append(bytes.Clone(b), byte(s), byte(s>>8))
}

// flip changes a bit, counted in the order of transmission.
func flip(b []byte, bit int) { b[bit/8] ^= 1 << (bit % 8) }

// isFound reports whether Check finds that octets are not protected, with an empty result.
func isFound(b []byte) bool {
	got, e := sums.Check(b)
	return e == api.ErrSum && len(got) == 0
}

// own reports whether a result's capacity is its length.
func own(b []byte) bool { return cap(b) == len(b) }

// P3.1

func TestStart(t *testing.T) {
	if got := sums.Start(); got != 65535 {
		t.Errorf("Start is %#x", got)
	}
}

func TestExtendByOneOctet(t *testing.T) {
	for r := range 1 << 16 {
		for v := range 1 << 8 {
			if got, want := sums.Extend(uint16(r), byte(v)), extended(uint16(r), byte(v)); got != want {
				t.Fatalf("Extend(%#x, %d) is %#x, not %#x", r, v, got, want)
			}
		}
	}
}

func TestExtendByNone(t *testing.T) {
	for r := range 1 << 16 {
		r := uint16(r)
		if a, b, c := sums.Extend(r), sums.Extend(r, nil...), sums.Extend(r, []byte{}...); a != r || b != r || c != r {
			t.Fatalf("Extend(%#x) by no octets is %#x, %#x, %#x", r, a, b, c)
		}
	}
}

func TestExtendByMany(t *testing.T) {
	var rnd random = 1
	for n := range 300 {
		r, b := uint16(rnd.below(1<<16)), rnd.octets(n)
		want := extended(r, b...)
		if got := sums.Extend(r, b...); got != want {
			t.Fatalf("Extend(%#x, %v) is %#x, not %#x", r, b, got, want)
		}
		k := rnd.below(n + 1)
		if got := sums.Extend(sums.Extend(r, b[:k]...), b[k:]...); got != want {
			t.Fatalf("Extend(%#x, %v) in parts of %d and %d is %#x, not %#x", r, b, k, n-k, got, want)
		}
	}
}

func TestExtendInOrder(t *testing.T) {
	if a, b := sums.Extend(start, 1, 2, 3), sums.Extend(start, 3, 2, 1); a != extended(start, 1, 2, 3) || a == b {
		t.Errorf("behind 1, 2, 3 the register is %#x, and behind 3, 2, 1 %#x", a, b)
	}
}

func TestSum(t *testing.T) {
	for _, x := range []struct {
		b    []byte
		want uint16
	}{
		{nil, 0},
		{[]byte{}, 0},
		{[]byte{0}, 0xF078},
		{[]byte{255}, 0xFF00},
		{[]byte{0xFF, 0xFF}, ^extended(start, 0xFF, 0xFF)},
		{[]byte("123456789"), 0x906E},
	} {
		if got := sums.Sum(x.b); got != x.want {
			t.Errorf("Sum(%v) is %#x, not %#x", x.b, got, x.want)
		}
	}
}

func TestSumOfManyLengths(t *testing.T) {
	var rnd random = 2
	for n := range 600 {
		b := rnd.octets(n)
		if got, want := sums.Sum(b), ^extended(start, b...); got != want {
			t.Fatalf("Sum(%v) is %#x, not %#x", b, got, want)
		}
	}
	b := rnd.octets(1 << 20)
	if got, want := sums.Sum(b), ^extended(start, b...); got != want {
		t.Errorf("the sum of %d octets is %#x, not %#x", len(b), got, want)
	}
}

// P3.2

func TestAdd(t *testing.T) {
	for _, x := range []struct{ b, want []byte }{
		{nil, []byte{0, 0}},
		{[]byte{}, []byte{0, 0}},
		{[]byte{0}, []byte{0, 120, 240}},
		{[]byte{255}, []byte{255, 0x00, 0xFF}},
		{[]byte("123456789"), []byte("123456789\x6e\x90")},
	} {
		if got := sums.Add(x.b); !bytes.Equal(got, x.want) || !own(got) {
			t.Errorf("Add(%v) is %v with capacity %d, not %v", x.b, got, cap(got), x.want)
		}
	}
	var rnd random = 3
	for n := range 600 {
		b := rnd.octets(n)
		if got, want := sums.Add(b), protected(b); !bytes.Equal(got, want) || !own(got) {
			t.Fatalf("Add(%v) is %v with capacity %d, not %v", b, got, cap(got), want)
		}
	}
}

func TestCheck(t *testing.T) {
	for _, x := range []struct{ b, want []byte }{
		{[]byte{0, 0}, nil},
		{[]byte{0, 120, 240}, []byte{0}},
		{[]byte("123456789\x6e\x90"), []byte("123456789")},
	} {
		if got, e := sums.Check(x.b); e != api.OK || !bytes.Equal(got, x.want) || !own(got) {
			t.Errorf("Check(%v) is %v, %d", x.b, got, e)
		}
	}
	var rnd random = 4
	for n := range 600 {
		b := rnd.octets(n)
		if got, e := sums.Check(protected(b)); e != api.OK || !bytes.Equal(got, b) || !own(got) {
			t.Fatalf("Check of the protected %v is %v, %d", b, got, e)
		}
	}
}

func TestCheckOfTooFew(t *testing.T) {
	for _, b := range [][]byte{nil, {}} {
		if got, e := sums.Check(b); e != api.ErrWidth || len(got) != 0 {
			t.Errorf("Check(%v) is %v, %d", b, got, e)
		}
	}
	for v := range 256 {
		if got, e := sums.Check([]byte{byte(v)}); e != api.ErrWidth || len(got) != 0 {
			t.Errorf("Check(%d) is %v, %d", v, got, e)
		}
	}
}

func TestCheckOfTheExamples(t *testing.T) {
	for _, b := range [][]byte{
		{0, 120, 241},
		{0, 240, 120}, // the high octet first
		{0, 1},
		{255, 255},
		{0, 0, 0},
		[]byte("123456789\x90\x6e"),
		[]byte("123456788\x6e\x90"),
	} {
		if !isFound(b) {
			got, e := sums.Check(b)
			t.Errorf("Check(%v) is %v, %d", b, got, e)
		}
	}
}

// TestEveryCheckSequence puts all pairs of octets behind some lists, of which only one pair protects each.
func TestEveryCheckSequence(t *testing.T) {
	var rnd random = 5
	for _, n := range []int{0, 1, 2, 5, 24} {
		b := protected(rnd.octets(n))
		low, high := b[n], b[n+1]
		for v := range 1 << 16 {
			b[n], b[n+1] = byte(v), byte(v>>8)
			_, e := sums.Check(b)
			if good := b[n] == low && b[n+1] == high; good && e != api.OK || !good && !isFound(b) {
				t.Fatalf("Check(%v) returns the error %d", b, e)
			}
		}
	}
}

// P3.3

func TestAddedOctetsAreProtected(t *testing.T) {
	var rnd random = 6
	for n := range 600 {
		b := rnd.octets(n)
		s := sums.Add(b)
		if got, e := sums.Check(s); e != api.OK || !bytes.Equal(got, b) {
			t.Fatalf("Check(Add(%v)) is %v, %d", b, got, e)
		}
		if got := sums.Extend(sums.Start(), s...); got != residue {
			t.Fatalf("the register behind %v is %#x", s, got)
		}
	}
}

// TestResidue looks at all pairs of octets behind a list: those that Check accepts leave the residue, no others do.
func TestResidue(t *testing.T) {
	b := append([]byte("a message"), 0, 0)
	n := len(b) - 2
	for v := range 1 << 16 {
		b[n], b[n+1] = byte(v), byte(v>>8)
		_, e := sums.Check(b)
		if r := sums.Extend(sums.Start(), b...); (e == api.OK) != (r == residue) {
			t.Fatalf("the register behind %v is %#x, and Check returns %d", b, r, e)
		}
	}
}

func TestSumOfThreeLists(t *testing.T) {
	var rnd random = 7
	for n := range most {
		a, b, c := rnd.octets(n), rnd.octets(n), rnd.octets(n)
		all := make([]byte, n)
		for i := range all {
			all[i] = a[i] ^ b[i] ^ c[i]
		}
		if got, want := sums.Sum(all), sums.Sum(a)^sums.Sum(b)^sums.Sum(c); got != want {
			t.Fatalf("the sum of three lists of %d octets is %#x, not %#x", n, got, want)
		}
	}
}

// TestFewChanges makes all changes of 1, 2 or 3 bits of short octets.
func TestFewChanges(t *testing.T) {
	for _, octets := range [][]byte{nil, {126}, []byte("abc"), []byte("message")} {
		b := sums.Add(octets)
		n := 8 * len(b)
		for i := range n {
			flip(b, i)
			if !isFound(b) {
				t.Fatalf("%v with the bit %d changed passes", octets, i)
			}
			for j := range i {
				flip(b, j)
				if !isFound(b) {
					t.Fatalf("%v with the bits %d and %d changed passes", octets, i, j)
				}
				for k := range j {
					flip(b, k)
					if !isFound(b) {
						t.Fatalf("%v with the bits %d, %d and %d changed passes", octets, i, j, k)
					}
					flip(b, k)
				}
				flip(b, j)
			}
			flip(b, i)
		}
	}
}

// change changes the bits from the given one on where the pattern has ones.
func change(b []byte, bit int, pattern uint16) {
	for i := range 16 {
		if pattern>>i&1 == 1 {
			flip(b, bit+i)
		}
	}
}

// TestBursts makes all bursts of at most 16 bits of short octets.
func TestBursts(t *testing.T) {
	b := sums.Add([]byte{126, 0, 255})
	n := 8 * len(b)
	for bit := range n {
		for pattern := 1; pattern < 1<<16; pattern += 2 { // the first bit of a burst is changed
			if bit+bits.Len(uint(pattern)) > n {
				break
			}
			change(b, bit, uint16(pattern))
			if !isFound(b) {
				t.Fatalf("the burst %#x at the bit %d passes", pattern, bit)
			}
			change(b, bit, uint16(pattern))
		}
	}
}

// marks returns for each bit of n octets how its change changes the register behind them. A change of several bits changes the register by the sum of their marks modulo 2.
func marks(n int) []uint16 {
	out := make([]uint16, 8*n)
	b := make([]byte, n)
	for i := range out {
		flip(b, i)
		out[i] = sums.Extend(0, b...)
		flip(b, i)
	}
	return out
}

// TestMarks shows that marks tell what a change of the longest octets does.
func TestMarks(t *testing.T) {
	var rnd random = 8
	m := marks(most)
	for range 2000 {
		b := sums.Add(rnd.octets(most - 2))
		want := uint16(residue)
		for range rnd.below(40) {
			i := rnd.below(len(m))
			flip(b, i)
			want ^= m[i]
		}
		_, e := sums.Check(b)
		if r := sums.Extend(sums.Start(), b...); r != want || (e == api.OK) != (want == residue) {
			t.Fatalf("the register is %#x, not %#x, and Check returns %d", r, want, e)
		}
	}
}

func TestFewChangesOfTheLongest(t *testing.T) {
	m := marks(most)
	bit := map[uint16]int{}
	for i, v := range m {
		if j, ok := bit[v]; ok || v == 0 {
			t.Fatalf("the bits %d and %d have the mark %#x", i, j, v)
		}
		bit[v] = i
	}
	for i := range m {
		for j := range i {
			if k, ok := bit[m[i]^m[j]]; ok {
				t.Fatalf("the marks of the bits %d, %d and %d cancel", i, j, k)
			}
		}
	}
}

// TestOddChangesOfTheLongest shows that each mark has an odd number of ones, so that an odd number of them never cancels.
func TestOddChangesOfTheLongest(t *testing.T) {
	for i, v := range marks(most) {
		if bits.OnesCount16(v)%2 == 0 {
			t.Fatalf("the bit %d has the mark %#x", i, v)
		}
	}
}

// TestBurstsOfTheLongest shows that no marks of 16 bits in a row cancel.
func TestBurstsOfTheLongest(t *testing.T) {
	m := marks(most)
	for i := range len(m) - 15 {
		var basis [16]uint16 // by their highest ones
		for _, v := range m[i : i+16] {
			for v != 0 && basis[bits.Len16(v)-1] != 0 {
				v ^= basis[bits.Len16(v)-1]
			}
			if v == 0 {
				t.Fatalf("marks of the bits %d to %d cancel", i, i+15)
			}
			basis[bits.Len16(v)-1] = v
		}
	}
}

// TestSampledChanges makes changes that must be found in octets of all lengths.
func TestSampledChanges(t *testing.T) {
	var rnd random = 9
	for n := 2; n <= most; n++ {
		good := sums.Add(rnd.octets(n - 2))
		for range 50 {
			b := bytes.Clone(good)
			changed := map[int]bool{}
			for want := 1 + 2*rnd.below(8*min(n, 20)/2); len(changed) < want; {
				changed[rnd.below(8*n)] = true
			}
			for i := range changed {
				flip(b, i)
			}
			if !isFound(b) {
				t.Fatalf("%d of %d octets' bits changed: %v passes for %v", len(changed), n, b, good)
			}
			b = bytes.Clone(good)
			pattern := uint16(rnd.below(1<<15))<<1 | 1
			change(b, rnd.below(8*n-15), pattern)
			if !isFound(b) {
				t.Fatalf("the burst %#x makes of %v the octets %v, which pass", pattern, good, b)
			}
		}
	}
}

// R1, R3, R4

// TestArgumentsStay gives the functions a part of a longer slice, which they must neither change nor keep.
func TestArgumentsStay(t *testing.T) {
	all := append(protected([]byte("a message")), 1, 2, 3, 4)
	before := bytes.Clone(all)
	n := len(all) - 4
	sums.Extend(5, all[:n]...)
	sums.Sum(all[:n])
	longer := sums.Add(all[:n])
	shorter, e := sums.Check(all[:n])
	if !bytes.Equal(all, before) || e != api.OK {
		t.Fatalf("the argument is %v, not %v; the error is %d", all, before, e)
	}
	clear(all)
	if !bytes.Equal(longer, protected(before[:n])) || !bytes.Equal(shorter, before[:n-2]) {
		t.Errorf("the results are %v and %v behind a change of the argument", longer, shorter)
	}
	copy(all, before)
	clear(longer)
	clear(shorter)
	if !bytes.Equal(all, before) {
		t.Errorf("the argument is %v behind a change of the results", all)
	}
}

// TestWrongArgumentsStay gives Check octets that it does not accept.
func TestWrongArgumentsStay(t *testing.T) {
	for _, all := range [][]byte{{7, 8, 9}, {0, 120, 241, 9}} {
		before := bytes.Clone(all)
		_, e := sums.Check(all[:len(all)-1])
		_, short := sums.Check(all[:1])
		if e != api.ErrSum || short != api.ErrWidth || !bytes.Equal(all, before) {
			t.Errorf("the argument is %v, not %v; the errors are %d, %d", all, before, e, short)
		}
	}
}

func TestResultsAreNew(t *testing.T) {
	b := []byte{1, 2, 3}
	x, y := sums.Add(b), sums.Add(b)
	clear(x)
	if !bytes.Equal(y, protected(b)) {
		t.Errorf("Add(%v) is %v behind a change of another result", b, y)
	}
	v, _ := sums.Check(y)
	w, _ := sums.Check(y)
	clear(v)
	if !bytes.Equal(w, b) {
		t.Errorf("Check(%v) is %v behind a change of another result", y, w)
	}
}

// TestResultsStay calls the functions again, for they keep nothing.
func TestResultsStay(t *testing.T) {
	for range 3 {
		if s := sums.Sum([]byte("123456789")); s != 0x906E || sums.Start() != start || sums.Extend(0, 128) != 0x8408 {
			t.Errorf("the sum is %#x, the start %#x, a register %#x", s, sums.Start(), sums.Extend(0, 128))
		}
	}
}
