package labels_test

import (
	"bytes"
	"slices"
	"testing"

	"pointcode/api"
	"pointcode/labels"
)

const (
	maxData = 268
	head    = 5 // octets in front of the data
)

// example is the message of the chapter's example, and octets are its octets.
var (
	example = api.Message{Service: 5, Network: 2, Priority: 1, Label: api.Label{To: 4114, From: 1, Select: 9}, Data: []byte{7}}
	octets  = []byte{149, 18, 80, 0, 144, 7}
)

// random is a generator of bytes that is the same in every run.
type random uint32

func (r *random) next() byte {
	*r = *r*1664525 + 1013904223
	return byte(*r >> 24)
}

// octets returns n octets.
func (r *random) octets(n int) []byte {
	out := make([]byte, n)
	for i := range out {
		out[i] = r.next()
	}
	return out
}

// below returns a number below n.
func (r *random) below(n int) int {
	return (int(r.next())<<16 | int(r.next())<<8 | int(r.next())) % n
}

// message returns a valid message.
func (r *random) message() api.Message {
	return api.Message{
		Service: r.next() % 16, Network: r.next() % 4, Priority: r.next() % 4,
		Label: api.Label{To: api.Point(r.below(16384)), From: api.Point(r.below(16384)), Select: r.next() % 16},
		Data:  r.octets(r.below(maxData + 1)),
	}
}

// errorOf returns the error of a message, from the definition.
func errorOf(m api.Message) api.Errno {
	switch {
	case m.Service > 15, m.Network > 3, m.Priority > 3, m.Label.To > 16383, m.Label.From > 16383, m.Label.Select > 15:
		return api.ErrArg
	case len(m.Data) > maxData:
		return api.ErrLimit
	}
	return api.OK
}

// octetsOf returns the octets of a valid message, from the definition.
func octetsOf(m api.Message) []byte {
	out := []byte{byte(int(m.Service) + 16*int(m.Priority) + 64*int(m.Network))}
	n := int(m.Label.To) + 16384*int(m.Label.From) + 268435456*int(m.Label.Select)
	for range 4 {
		out = append(out, byte(n%256))
		n /= 256
	}
	return append(out, m.Data...)
}

// equal reports whether two messages are equal, from the definition.
func equal(a, b api.Message) bool {
	return a.Service == b.Service && a.Network == b.Network && a.Priority == b.Priority &&
		a.Label.To == b.Label.To && a.Label.From == b.Label.From && a.Label.Select == b.Label.Select &&
		string(a.Data) == string(b.Data)
}

// zero reports whether a message is the zero message.
func zero(m api.Message) bool { return equal(m, api.Message{}) }

// own reports whether a result's capacity is its length.
func own(b []byte) bool { return cap(b) == len(b) }

// encodes checks Encode of a message, and whether Decode inverts it.
func encodes(t *testing.T, m api.Message) {
	t.Helper()
	data := bytes.Clone(m.Data)
	b, e := labels.Encode(m)
	if !bytes.Equal(m.Data, data) {
		t.Fatalf("Encode changed the data of %v", m)
	}
	if err := errorOf(m); err != api.OK {
		if e != err || len(b) != 0 {
			t.Fatalf("Encode(%v) is %v, %d, not the error %d", m, b, e, err)
		}
		return
	}
	if want := octetsOf(m); !bytes.Equal(b, want) || e != api.OK || !own(b) {
		t.Fatalf("Encode(%v) is %v, %d with capacity %d, not %v", m, b, e, cap(b), want)
	}
	if d, e := labels.Decode(b); !equal(d, m) || e != api.OK {
		t.Fatalf("Decode(Encode(%v)) is %v, %d", m, d, e)
	}
}

// decodes checks Decode of octets, and whether Encode inverts it.
func decodes(t *testing.T, b []byte) {
	t.Helper()
	given := bytes.Clone(b)
	m, e := labels.Decode(b)
	if !bytes.Equal(b, given) {
		t.Fatalf("Decode changed %v", given)
	}
	want := api.OK
	switch {
	case len(b) < head:
		want = api.ErrForm
	case len(b) > maxData+head:
		want = api.ErrLimit
	}
	if e != want || want != api.OK && !zero(m) {
		t.Fatalf("Decode(%v) is %v, %d, not the error %d", b, m, e, want)
	}
	if want != api.OK {
		return
	}
	if errorOf(m) != api.OK || !bytes.Equal(octetsOf(m), b) || !own(m.Data) {
		t.Fatalf("Decode(%v) is %v", b, m)
	}
	if back, e := labels.Encode(m); !bytes.Equal(back, b) || e != api.OK {
		t.Fatalf("Encode(Decode(%v)) is %v, %d", b, back, e)
	}
}

// P12.2

func TestCheck(t *testing.T) {
	long := make([]byte, maxData+1)
	for _, x := range []struct {
		m    api.Message
		want api.Errno
	}{
		{api.Message{}, api.OK},
		{api.Message{Data: []byte{}}, api.OK},
		{example, api.OK},
		{api.Message{Service: 15, Network: 3, Priority: 3, Label: api.Label{To: 16383, From: 16383, Select: 15}, Data: long[:maxData]}, api.OK},
		{api.Message{Service: 16}, api.ErrArg},
		{api.Message{Network: 4}, api.ErrArg},
		{api.Message{Priority: 4}, api.ErrArg},
		{api.Message{Label: api.Label{To: 16384}}, api.ErrArg},
		{api.Message{Label: api.Label{From: 16384}}, api.ErrArg},
		{api.Message{Label: api.Label{Select: 16}}, api.ErrArg},
		{api.Message{Data: long}, api.ErrLimit},
		{api.Message{Data: make([]byte, 1<<20)}, api.ErrLimit},
		// ErrArg is named first.
		{api.Message{Service: 16, Data: long}, api.ErrArg},
		{api.Message{Network: 4, Data: long}, api.ErrArg},
		{api.Message{Priority: 4, Data: long}, api.ErrArg},
		{api.Message{Label: api.Label{To: 16384}, Data: long}, api.ErrArg},
		{api.Message{Label: api.Label{From: 16384}, Data: long}, api.ErrArg},
		{api.Message{Label: api.Label{Select: 16}, Data: long}, api.ErrArg},
	} {
		if got := labels.Check(x.m); got != x.want {
			t.Errorf("Check(%v) is %d, not %d", x.m, got, x.want)
		}
		encodes(t, x.m)
	}
}

// TestCheckOfFields gives each field all values.
func TestCheckOfFields(t *testing.T) {
	for v := range 1 << 16 {
		p, u := api.Point(v), uint8(v)
		for _, m := range []api.Message{
			{Label: api.Label{To: p}},
			{Label: api.Label{From: p}},
			{Service: u},
			{Network: u},
			{Priority: u},
			{Label: api.Label{Select: u}},
		} {
			if got, want := labels.Check(m), errorOf(m); got != want {
				t.Fatalf("Check(%v) is %d, not %d", m, got, want)
			}
		}
	}
}

// TestCheckOfLengths gives data of all lengths around the limit, in slices with more capacity.
func TestCheckOfLengths(t *testing.T) {
	room := make([]byte, 1000)
	for n := range 600 {
		m := api.Message{Data: room[:n]}
		if got, want := labels.Check(m), errorOf(m); got != want {
			t.Errorf("Check of %d bytes is %d, not %d", n, got, want)
		}
	}
}

// TestEncodeOfEdges gives all fields values around their limits, together.
func TestEncodeOfEdges(t *testing.T) {
	for _, service := range []uint8{0, 1, 8, 15, 16, 255} {
		for _, two := range []uint8{0, 1, 2, 3, 4, 5, 6, 7, 12, 13, 14, 15, 16, 64, 255} {
			for _, p := range edges {
				for _, q := range edges {
					for _, sel := range []uint8{0, 1, 2, 4, 8, 15, 16, 255} {
						for _, n := range []int{0, maxData + 1} {
							m := api.Message{Service: service, Network: two & 3, Priority: two >> 2, Label: api.Label{To: p, From: q, Select: sel}, Data: make([]byte, n)}
							if got, want := labels.Check(m), errorOf(m); got != want {
								t.Fatalf("Check(%v) is %d, not %d", m, got, want)
							}
							if n == 0 {
								encodes(t, m)
							}
						}
					}
				}
			}
		}
	}
}

func TestEncode(t *testing.T) {
	got, e := labels.Encode(example)
	if !bytes.Equal(got, octets) || e != api.OK || !own(got) {
		t.Errorf("Encode(%v) is %v, %d", example, got, e)
	}
	for _, x := range []struct {
		m    api.Message
		want []byte
	}{
		{api.Message{}, []byte{0, 0, 0, 0, 0}},
		{api.Message{Service: 15}, []byte{15, 0, 0, 0, 0}},
		{api.Message{Priority: 3}, []byte{48, 0, 0, 0, 0}},
		{api.Message{Network: 3}, []byte{192, 0, 0, 0, 0}},
		{api.Message{Label: api.Label{To: 16383}}, []byte{0, 255, 63, 0, 0}},
		{api.Message{Label: api.Label{From: 16383}}, []byte{0, 0, 192, 255, 15}},
		{api.Message{Label: api.Label{Select: 15}}, []byte{0, 0, 0, 0, 240}},
		{api.Message{Data: []byte{1, 2, 3}}, []byte{0, 0, 0, 0, 0, 1, 2, 3}},
	} {
		if got, e := labels.Encode(x.m); !bytes.Equal(got, x.want) || e != api.OK {
			t.Errorf("Encode(%v) is %v, %d, not %v", x.m, got, e, x.want)
		}
	}
}

// P12.2, P12.6

// TestEncodeOfAllPoints gives a label all points.
func TestEncodeOfAllPoints(t *testing.T) {
	for i := range 1 << 16 {
		p := api.Point(i)
		encodes(t, api.Message{Label: api.Label{To: p, From: 16383 - p&16383}})
		encodes(t, api.Message{Label: api.Label{To: 9, From: p, Select: 6}})
	}
}

func TestEncodeOfMany(t *testing.T) {
	var rnd random = 1
	for range 20000 {
		encodes(t, rnd.message())
	}
	for n := range 400 {
		m := rnd.message()
		m.Data = rnd.octets(n)
		encodes(t, m)
	}
}

func TestDecode(t *testing.T) {
	m, e := labels.Decode(octets)
	if !equal(m, example) || e != api.OK || !own(m.Data) {
		t.Errorf("Decode(%v) is %v, %d", octets, m, e)
	}
	all := bytes.Repeat([]byte{255}, head)
	want := api.Message{Service: 15, Network: 3, Priority: 3, Label: api.Label{To: 16383, From: 16383, Select: 15}}
	if m, e := labels.Decode(all); !equal(m, want) || e != api.OK {
		t.Errorf("Decode(%v) is %v, %d", all, m, e)
	}
	if m, e := labels.Decode(nil); !zero(m) || e != api.ErrForm {
		t.Errorf("Decode(nil) is %v, %d", m, e)
	}
}

// TestDecodeOfHeads gives all values of each octet in front of the data, and of all pairs of them.
func TestDecodeOfHeads(t *testing.T) {
	for _, n := range []int{head, head + 3} {
		for i := range head {
			for j := range i + 1 {
				b := []byte{0x5A, 0xC3, 0x96, 0x3C, 0xA5, 1, 2, 3}[:n]
				for v := range 256 {
					for w := range 256 {
						b[i], b[j] = byte(v), byte(w)
						decodes(t, b)
					}
				}
			}
		}
	}
}

// TestDecodeOfLengths gives octets of all lengths around the limits.
func TestDecodeOfLengths(t *testing.T) {
	var rnd random = 2
	for n := range 600 {
		for range 10 {
			decodes(t, rnd.octets(n))
		}
	}
	decodes(t, make([]byte, 1<<20))
}

// P12.5

func TestSame(t *testing.T) {
	other := func(change func(*api.Message)) api.Message {
		m := labels.Copy(example)
		m.Data = []byte{1, 2, 3}
		change(&m)
		return m
	}
	all := []api.Message{
		other(func(m *api.Message) {}),
		other(func(m *api.Message) { m.Service = 4 }),
		other(func(m *api.Message) { m.Service = 21 }),
		other(func(m *api.Message) { m.Network = 1 }),
		other(func(m *api.Message) { m.Network = 6 }),
		other(func(m *api.Message) { m.Priority = 2 }),
		other(func(m *api.Message) { m.Priority = 5 }),
		other(func(m *api.Message) { m.Label.To = 1 }),
		other(func(m *api.Message) { m.Label.To = 4114 + 16384 }),
		other(func(m *api.Message) { m.Label.From = 4114 }),
		other(func(m *api.Message) { m.Label.From = 1 + 16384 }),
		other(func(m *api.Message) { m.Label.To, m.Label.From = 1, 4114 }),
		other(func(m *api.Message) { m.Label.Select = 8 }),
		other(func(m *api.Message) { m.Label.Select = 25 }),
		other(func(m *api.Message) { m.Data[0] = 0 }),
		other(func(m *api.Message) { m.Data[1] = 0 }),
		other(func(m *api.Message) { m.Data[2] = 0 }),
		other(func(m *api.Message) { m.Data = []byte{1, 2} }),
		other(func(m *api.Message) { m.Data = []byte{1, 2, 3, 0} }),
		other(func(m *api.Message) { m.Data = nil }),
		other(func(m *api.Message) { m.Data = make([]byte, 300) }),
		{},
	}
	for i, a := range all {
		for j, b := range all {
			if got := labels.Same(a, b); got != (i == j) {
				t.Errorf("Same(%v, %v) is %v", a, b, got)
			}
			if got := labels.Same(a, labels.Copy(b)); got != (i == j) {
				t.Errorf("Same(%v, a copy of %v) is %v", a, b, got)
			}
		}
	}
}

// TestSameOfNil checks R3: nil and empty data are equal.
func TestSameOfNil(t *testing.T) {
	a, b := labels.Copy(example), labels.Copy(example)
	a.Data, b.Data = nil, []byte{}
	if !labels.Same(a, b) || !labels.Same(b, a) || !labels.Same(a, labels.Copy(b)) {
		t.Error("nil and empty data differ")
	}
	x, e := labels.Encode(a)
	y, f := labels.Encode(b)
	if !bytes.Equal(x, y) || e != api.OK || f != api.OK {
		t.Errorf("the octets are %v, %d and %v, %d", x, e, y, f)
	}
	m, e := labels.Decode(nil)
	n, f := labels.Decode([]byte{})
	if !zero(m) || !zero(n) || e != f {
		t.Errorf("the errors are %d and %d", e, f)
	}
}

func TestCopy(t *testing.T) {
	var rnd random = 3
	all := []api.Message{
		{},
		{Data: []byte{}},
		example,
		{Service: 255, Network: 254, Priority: 253, Label: api.Label{To: 65535, From: 65534, Select: 252}, Data: rnd.octets(1000)},
		{Data: make([]byte, 3, 100)},
		{Data: make([]byte, 0, 100)},
	}
	for n := range 300 {
		all = append(all, api.Message{Service: rnd.next(), Label: api.Label{To: api.Point(n)}, Data: rnd.octets(n)})
	}
	for _, m := range all {
		given := bytes.Clone(m.Data)
		c := labels.Copy(m)
		if !equal(c, m) || !labels.Same(c, m) || !own(c.Data) {
			t.Fatalf("Copy(%v) is %v with capacity %d", m, c, cap(c.Data))
		}
		for i := range c.Data {
			c.Data[i]++
		}
		if !bytes.Equal(m.Data, given) {
			t.Fatalf("the copy of %v shares its data", m)
		}
	}
}

// R1, R4: no memory is shared.

func TestNewMemory(t *testing.T) {
	given := labels.Copy(example)
	given.Data = []byte{1, 2, 3}
	first, _ := labels.Encode(given)
	second, _ := labels.Encode(given)
	want := slices.Clone(first)
	given.Data[0] = 9
	clear(second)
	if !bytes.Equal(first, want) {
		t.Errorf("the octets share memory: %v", first)
	}
	a, _ := labels.Decode(first)
	b, _ := labels.Decode(first)
	c := labels.Copy(a)
	clear(first)
	clear(b.Data)
	if !bytes.Equal(a.Data, []byte{1, 2, 3}) {
		t.Errorf("the message shares memory: %v", a)
	}
	clear(a.Data)
	if !bytes.Equal(c.Data, []byte{1, 2, 3}) {
		t.Errorf("the copy shares memory: %v", c)
	}
}

// TestCapacity gives data behind which there is more memory, which must not change.
func TestCapacity(t *testing.T) {
	room := []byte{1, 2, 3, 4, 5, 6, 7, 8, 9, 10}
	want := slices.Clone(room)
	labels.Encode(api.Message{Data: room[:2]})
	c := labels.Copy(api.Message{Data: room[:2]})
	m, _ := labels.Decode(room[:7])
	_ = append(c.Data, 99)
	_ = append(m.Data, 99)
	if !bytes.Equal(room, want) {
		t.Errorf("%v, not %v", room, want)
	}
}
