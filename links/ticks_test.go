package links_test

import (
	"bytes"
	"math"
	"reflect"
	"slices"
	"testing"

	"pointcode/api"
	"pointcode/lines"
	"pointcode/links"
)

// P11.4

// TestDelays brings links with all delays to the state Service, and lets a load arrive.
func TestDelays(t *testing.T) {
	for d := 1; d <= maxDelay; d++ {
		for _, cyclic := range []bool{false, true} {
			o := links.Usual(d)
			o.Cyclic = cyclic
			x := behind(t, o, "aA"+ticks(4*d+19))
			are(t, x, "AA")
			perform(t, x, ".")
			are(t, x, "RR")
			perform(t, x, ticks(d-1))
			are(t, x, "RR")
			perform(t, x, ".")
			are(t, x, "SS")
			perform(t, x, "l"+ticks(d))
			if l := x.Take(1); len(l) != 0 {
				t.Errorf("delay %d: %v", d, l)
			}
			perform(t, x, ".")
			if l := x.Take(1); len(l) != 1 {
				t.Errorf("delay %d: %v", d, l)
			}
			are(t, x, "SS")
		}
	}
}

// are compares the states of both ends with their letters.
func are(t *testing.T, x *links.Link, want string) {
	t.Helper()
	if got := letter(x.State(0)) + letter(x.State(1)); got != want {
		t.Errorf("tick %d: %s, not %s", x.Now(), got, want)
	}
}

// TestPatience uses up the ticks of the state Ready. The tick that leads to it is not one of them.
func TestPatience(t *testing.T) {
	for patience := 1; patience <= 6; patience++ {
		for lost := range 8 {
			o := noisy(1, drop(from(23, lost)...))
			o.Patience = patience
			want := "23AA RR"
			switch {
			case lost == 0:
				want += " 9SS"
			case lost == 1 && patience > 1:
				want += " RS 8SS"
			case lost < patience:
				want += " " + runs(append(words("RS", lost), words("SS", 9-lost)...))
			default:
				want += " " + runs(append(append(words("RS", patience-1), "XS"), words("XX", 9-patience)...))
			}
			shows(t, o, "aA"+ticks(33), want)
		}
	}
}

// words returns a word n times.
func words(word string, n int) []string { return slices.Repeat([]string{word}, n) }

// TestFirstLoad lets a load lead to the state Service.
func TestFirstLoad(t *testing.T) {
	x := shows(t, noisy(0, drop(23)), "aAll"+ticks(26), "23AA RR SR SS")
	if l := x.Take(1); len(l) != 1 || !bytes.Equal(l[0], load(2)) || x.Last(1) != 0 {
		t.Errorf("%v, %d", l, x.Last(1))
	}
	perform(t, x, ".")
	if l := x.Take(1); len(l) != 1 || !bytes.Equal(l[0], load(3)) || x.Last(1) != 1 {
		t.Errorf("%v, %d", l, x.Last(1))
	}
}

// TestReadyFill lets an end in the state Service, which has sent loads, hear for long what one in the state Ready sends: it acknowledges nothing and is not abnormal.
func TestReadyFill(t *testing.T) {
	o := noisy(0, drop(from(23, 20)...))
	o.Flow.Wait = 40
	x := shows(t, o, "aAlll"+ticks(45), "23AA RR 20SR SS")
	rest(t, x, 0, 127, 3)
	perform(t, x, ticks(9))
	are(t, x, "SS")
	if l := x.Take(1); len(l) != 3 {
		t.Errorf("%v", l)
	}
	rest(t, x, 0, 2, 0)
}

// TestSides disturbs the bursts of one end only.
func TestSides(t *testing.T) {
	shows(t, noisy(0, drop(from(0, 100)...)), "aA"+ticks(70), "34AA 31XA 5XX")
	shows(t, noisy(1, drop(from(0, 100)...)), "aA"+ticks(70), "34AA 31AX 5XX")
}

// TestOffSends lets an end send nothing before it is started: its first burst is lost.
func TestOffSends(t *testing.T) {
	shows(t, noisy(1, drop(0)), "a.....A"+ticks(30), "5A- 24AA RR 5SS")
	shows(t, noisy(1, drop(1)), "a.....A"+ticks(30), "5A- 23AA AR RR 5SS")
}

// TestUnread lets wrong units arrive while an end is Off or Out: they are not read, neither then nor later.
func TestUnread(t *testing.T) {
	// the bursts 7 to 9 arrive in the ticks 9 to 11
	for text, want := range map[string]int{
		"a" + ticks(12):                          0,
		"a" + ticks(10) + "A":                    0,
		"a" + ticks(10) + "A.":                   1,
		"a" + ticks(10) + "A" + ticks(9):         1,
		"a" + ticks(8) + "A" + ticks(9):          3,
		"a" + ticks(12) + "A" + ticks(9):         0,
		"a" + "AS" + ticks(12) + "A" + ticks(9):  0,
		"a" + "AS" + ticks(10) + "A" + ticks(9):  1,
		"a" + "A" + ticks(9) + "S" + ticks(9):    1,
		"a" + "A" + ticks(9) + "S.A" + ticks(9):  2,
		"a" + "A" + ticks(9) + "S..A" + ticks(9): 1,
	} {
		x := behind(t, noisy(0, flip(7, 8, 9)), text)
		if x.Wrong(1) != want || x.Wrong(0) != 0 {
			t.Errorf("%s: %d and %d wrong units", text, x.Wrong(0), x.Wrong(1))
		}
	}
}

// TestTwice lets bursts arrive twice. Loads are accepted once.
func TestTwice(t *testing.T) {
	for _, cyclic := range []bool{false, true} {
		var l []lines.Noise
		for at := range 1000 {
			l = append(l, lines.Noise{At: at, Kind: lines.Twice})
		}
		o := links.Usual(1)
		o.Noise, o.Cyclic = [2][]lines.Noise{l, l}, cyclic
		x := shows(t, o, isServed+"lllLL"+ticks(8), "23AA RR 9SS")
		if a, b := x.Take(0), x.Take(1); len(a) != 2 || len(b) != 3 || x.Wrong(0)+x.Wrong(1) != 0 {
			t.Errorf("%v and %v", a, b)
		}
		// a wrong unit is one twice
		o.Noise[0] = append(flip(27), l...)
		x = shows(t, o, isServed+ticks(8), "23AA RR 9SS")
		if x.Wrong(1) != 2 {
			t.Errorf("%d wrong units", x.Wrong(1))
		}
	}
}

// TestFullLine has as much on the lines as possible.
func TestFullLine(t *testing.T) {
	const d = maxDelay
	o := links.Usual(d)
	for k := range o.Noise {
		for at := range lines.MaxNoise {
			o.Noise[k] = append(o.Noise[k], lines.Noise{At: at, Kind: lines.Twice})
		}
	}
	ones := bytes.Repeat([]byte{255}, 273)
	x := behind(t, o, "aA"+ticks(5*d+20))
	sent, got := 0, [2]int{}
	for range 4 * d {
		for k := range 2 {
			if e := x.Send(k, ones); e != api.OK {
				t.Fatalf("Send: %d", e)
			}
			for _, l := range x.Take(k) {
				if !bytes.Equal(l, ones) {
					t.Errorf("%v", l)
				}
				got[k]++
			}
		}
		sent++
		perform(t, x, ".")
	}
	perform(t, x, ticks(2*d))
	are(t, x, "SS")
	if a, b := got[0]+len(x.Take(0)), got[1]+len(x.Take(1)); a != sent || b != sent {
		t.Errorf("%d and %d, not %d", a, b, sent)
	}
}

// arrivals returns how many loads end 1 takes behind each of n ticks.
func arrivals(t *testing.T, x *links.Link, n int) []int {
	t.Helper()
	var out []int
	for range n {
		perform(t, x, ".")
		out = append(out, len(x.Take(1)))
	}
	return out
}

// TestCorrections tells the methods of error correction apart by the ticks in which loads arrive.
func TestCorrections(t *testing.T) {
	for i, c := range []struct {
		cyclic        bool
		loads, octets int
		lost          []int // bursts of end 0, of which the number 25 is the first load
		want          []int
	}{
		{false, 0, 0, nil, []int{0, 1, 1, 1, 0, 0, 0, 0, 0, 0}},
		{false, math.MinInt, math.MaxInt, nil, []int{0, 1, 1, 1, 0, 0, 0, 0, 0, 0}},
		{false, 1, 1, []int{25}, []int{0, 0, 0, 0, 1, 1, 1, 0, 0, 0}},
		{true, 127, 65535, nil, []int{0, 1, 1, 1, 0, 0, 0, 0, 0, 0}},
		{true, 127, 65535, []int{25}, []int{0, 0, 0, 0, 1, 1, 1, 0, 0, 0}},
		{true, 127, 65535, []int{26}, []int{0, 1, 0, 0, 1, 1, 0, 0, 0, 0}},
		{true, 1, 65535, nil, []int{0, 1, 0, 1, 0, 1, 0, 0, 0, 0}},
		{true, 127, 1, nil, []int{0, 1, 0, 1, 0, 1, 0, 0, 0, 0}},
		{true, 2, 65535, nil, []int{0, 1, 1, 1, 0, 0, 0, 0, 0, 0}},
		{true, 1, 1, []int{25, 26, 27}, []int{0, 0, 0, 0, 1, 0, 1, 0, 1, 0}},
	} {
		o := noisy(0, drop(c.lost...))
		o.Cyclic, o.Loads, o.Octets = c.cyclic, c.loads, c.octets
		x := behind(t, o, isServed+"lll")
		if got := arrivals(t, x, 10); !reflect.DeepEqual(got, c.want) {
			t.Errorf("%d: %v, not %v", i, got, c.want)
		}
	}
}

// TestAcknowledgements gives loads the time that an acknowledgement takes.
func TestAcknowledgements(t *testing.T) {
	// a load is sent in tick 26 and acknowledged in tick 28
	o := links.Usual(1)
	o.Flow.Wait = 2
	shows(t, o, isServed+"l"+ticks(20), "23AA RR 21SS")
	o.Flow.Wait = 1
	shows(t, o, isServed+"l"+ticks(4), "23AA RR 2SS XS 2XX")
	shows(t, o, isServed+ticks(4), "23AA RR 5SS")
	// nothing is heard of end 1 from tick 27 on
	o = noisy(1, drop(from(25, 50)...))
	o.Flow.Wait = 4
	shows(t, o, isServed+"l"+ticks(8), "23AA RR 5SS XS 3XX")
	shows(t, o, isServed+ticks(4)+"l"+ticks(8), "23AA RR 9SS XS 3XX")
	shows(t, o, isServed+"l.l.l.l"+ticks(5), "23AA RR 5SS XS 3XX")
	// of two loads, the first one is acknowledged in tick 28; the second one, sent in tick 27, is lost again and again
	o = noisy(0, drop(from(26, 50)...))
	o.Flow.Wait = 4
	shows(t, o, isServed+"ll"+ticks(8), "23AA RR 6SS 3XS")
	// acknowledgements that come one after another give the others their time
	o = links.Usual(1)
	o.Flow.Wait = 2
	shows(t, o, isServed+"llllllllll"+ticks(20), "23AA RR 21SS")
}

// TestBusy lets the other end be busy for too long, unless an acknowledgement comes.
func TestBusy(t *testing.T) {
	o := links.Usual(1)
	o.Flow.Most = 5
	// Busy is heard in the ticks 28 and 30
	shows(t, o, isServed+"C"+ticks(8), "23AA RR 7SS XS XX")
	shows(t, o, isServed+"C....D"+ticks(5), "23AA RR 7SS XS 2XX")
	shows(t, o, isServed+"lC....D"+ticks(9), "23AA RR 14SS")
	shows(t, o, isServed+"C....lD"+ticks(9), "23AA RR 14SS")
	shows(t, o, isServed+"C....D.l"+ticks(9), "23AA RR 7SS XS 7XX")
}

// TestLastTick performs as many ticks as there are.
func TestLastTick(t *testing.T) {
	x := made(t, links.Usual(1))
	for x.Now() < maxTicks-27 {
		if e := x.Tick(); e != api.OK {
			t.Fatalf("tick %d: %d", x.Now(), e)
		}
	}
	perform(t, x, "aA"+ticks(25)+"l..")
	are(t, x, "SS")
	if x.Now() != maxTicks {
		t.Errorf("Now is %d", x.Now())
	}
	perform(t, x, "lLcs")
	before := look(x)
	for range 5 {
		if e := x.Tick(); e != api.ErrLimit || look(x) != before {
			t.Errorf("%d: %#v, not %#v", e, look(x), before)
		}
	}
	if l := x.Take(1); len(l) != 1 || len(x.Take(0)) != 0 {
		t.Errorf("%v", l)
	}
	perform(t, x, "SaA")
	are(t, x, "AA")
}

// P11.5

// TestTake takes loads in their order, each of them once.
func TestTake(t *testing.T) {
	x := behind(t, links.Usual(1), isServed+"lllLmL.......")
	for k, want := range [][][]byte{{load(30), load(32)}, {load(27), load(28), load(29), long(31)}} {
		if got := x.Take(k); !reflect.DeepEqual(got, want) {
			t.Errorf("end %d: %v", k, got)
		}
		if got := x.Take(k); len(got) != 0 {
			t.Errorf("end %d: %v again", k, got)
		}
	}
	// loads of several ticks wait, also behind a stop
	perform(t, x, "l..l..l..S...")
	if got := x.Take(1); !reflect.DeepEqual(got, [][]byte{load(0), load(3), load(6)}) {
		t.Errorf("%v", got)
	}
	perform(t, x, "........")
	if got := x.Take(1); len(got) != 0 {
		t.Errorf("%v behind a stop", got)
	}
}

// TestRetrieve retrieves loads in all states.
func TestRetrieve(t *testing.T) {
	x := behind(t, links.Usual(1), "alll")
	perform(t, x, "A"+ticks(10))
	rest(t, x, 0, 127, 3)
	perform(t, x, ticks(14))
	are(t, x, "RR")
	rest(t, x, 0, 127, 3)
	perform(t, x, "..")
	rest(t, x, 0, 127, 3)
	rest(t, x, 0, 0, 2)
	rest(t, x, 0, 1, 1)
	for n := 2; n < 127; n++ {
		if l, e := x.Retrieve(0, uint8(n)); e != api.ErrArg || len(l) != 0 {
			t.Errorf("Retrieve(%d): %v, %d", n, l, e)
		}
	}
	perform(t, x, "s")
	for range 20 {
		rest(t, x, 0, 127, 3)
		rest(t, x, 0, 1, 1)
		rest(t, x, 1, 127, 0)
		perform(t, x, ".")
	}
	if l, e := x.Retrieve(0, 0); e != api.OK || !reflect.DeepEqual(l, [][]byte{load(2), load(3)}) {
		t.Errorf("%v, %d", l, e)
	}
	for n := 128; n < 256; n++ {
		if l, e := x.Retrieve(0, uint8(n)); e != api.ErrArg || len(l) != 0 {
			t.Errorf("Retrieve(%d): %v, %d", n, l, e)
		}
	}
}

// TestLast counts the loads that have been accepted.
func TestLast(t *testing.T) {
	for _, cyclic := range []bool{false, true} {
		o := links.Usual(1)
		o.Cyclic = cyclic
		x := behind(t, o, isServed)
		for n := range 300 {
			if want := uint8((n + 127) % 128); x.Last(1) != want || x.Last(0) != 127 {
				t.Fatalf("%d loads: %d and %d", n, x.Last(1), x.Last(0))
			}
			perform(t, x, "l....")
		}
	}
}

// TestTelling tells the same when it is asked again.
func TestTelling(t *testing.T) {
	for _, text := range []string{"", "a", "aA" + ticks(24), isServed + "lL..", isServed + "lL..sS", isServed + "lL..sS..aA"} {
		x := behind(t, links.Usual(1), text)
		before := look(x)
		for range 5 {
			if v := look(x); v != before {
				t.Errorf("%s: %#v, not %#v", text, v, before)
			}
		}
	}
}

// P1, R1, R4, R5

// badEnds are numbers of no end.
var badEnds = []int{math.MinInt, math.MinInt32, -maxTicks, -2, -1, 2, 3, 255, 256, 257, maxTicks, 1 << 31, 1 << 32, 1<<32 + 1, math.MaxInt}

// returnsErrors checks that methods return an error for an end, whatever their other arguments are.
func returnsErrors(t *testing.T, x *links.Link, end int, want api.Errno) {
	t.Helper()
	for _, is := range []bool{false, true} {
		if a, b, c := x.Start(end, is), x.Congest(end, is), x.Outage(end, is); a != want || b != want || c != want {
			t.Errorf("end %d: %d, %d, %d", end, a, b, c)
		}
	}
	for _, n := range []int{0, 1, 2, 273, 274} {
		if e := x.Send(end, make([]byte, n)); e != want {
			t.Errorf("Send(%d, %d octets): %d", end, n, e)
		}
	}
	for n := range 256 {
		if l, e := x.Retrieve(end, uint8(n)); e != want || len(l) != 0 {
			t.Errorf("Retrieve(%d, %d): %v, %d", end, n, l, e)
		}
	}
	if e := x.Stop(end); e != want {
		t.Errorf("Stop(%d): %d", end, e)
	}
	if l := x.Take(end); len(l) != 0 || x.State(end) != links.Off || x.Last(end) != 0 || x.Wrong(end) != 0 {
		t.Errorf("end %d: %v, %d, %d, %d", end, l, x.State(end), x.Last(end), x.Wrong(end))
	}
}

func TestNoLink(t *testing.T) {
	for what, x := range map[string]*links.Link{"nil": nil, "zero": new(links.Link)} {
		for range 3 {
			for _, end := range append([]int{0, 1}, badEnds...) {
				returnsErrors(t, x, end, api.ErrNil)
			}
			if e := x.Tick(); e != api.ErrNil || x.Now() != 0 {
				t.Errorf("%s: %d in tick %d", what, e, x.Now())
			}
		}
	}
}

// TestNoEnd gives the methods numbers of no end, in all states.
func TestNoEnd(t *testing.T) {
	for _, text := range []string{"", "aA", "aA" + ticks(24), isServed + "lL..", isServed + "lL..sS"} {
		x := behind(t, noisy(0, flip(3)), text)
		before := look(x)
		for _, end := range badEnds {
			returnsErrors(t, x, end, api.ErrArg)
		}
		if v := look(x); v != before {
			t.Errorf("%s: %#v, not %#v", text, v, before)
		}
	}
}

func TestObject(t *testing.T) {
	object := reflect.TypeFor[links.Link]()
	if object.Kind() != reflect.Struct {
		t.Fatalf("a Link is a %v", object.Kind())
	}
	for i := range object.NumField() {
		if f := object.Field(i); f.IsExported() {
			t.Errorf("a Link has the field %s", f.Name)
		}
	}
}

// TestOptionsMemory changes the options behind New, which does not change them.
func TestOptionsMemory(t *testing.T) {
	o := links.Usual(1)
	for k := range o.Noise {
		o.Noise[k] = append(flip(40), append(drop(30), flip(9)...)...)
	}
	same := o
	for k := range o.Noise {
		same.Noise[k] = append([]lines.Noise(nil), o.Noise[k]...)
	}
	x := made(t, o)
	if !reflect.DeepEqual(o, same) {
		t.Errorf("%+v", o)
	}
	for k := range o.Noise {
		for i := range o.Noise[k] {
			o.Noise[k][i] = lines.Noise{At: i, Kind: lines.Drop}
		}
	}
	perform(t, x, "aA"+ticks(60))
	if x.Wrong(0) != 2 || x.Wrong(1) != 2 {
		t.Errorf("%d and %d wrong units", x.Wrong(0), x.Wrong(1))
	}
}

// TestLoadMemory changes a load behind Send, and loads that have been returned.
func TestLoadMemory(t *testing.T) {
	for _, cyclic := range []bool{false, true} {
		o := links.Usual(1)
		o.Cyclic = cyclic
		x := behind(t, o, isServed)
		for n := range 5 {
			given := load(n)
			x.Send(0, given)
			if !bytes.Equal(given, load(n)) {
				t.Errorf("Send changes a load to %v", given)
			}
			clear(given)
		}
		for _, text := range []string{"", ".", ".", "."} {
			perform(t, x, text)
			a, _ := x.Retrieve(0, 127)
			b, _ := x.Retrieve(0, 127)
			own(t, a)
			for n := range b {
				if !bytes.Equal(b[n], load(n)) {
					t.Errorf("load %d is %v", n, b[n])
				}
			}
		}
		perform(t, x, "....")
		taken := x.Take(1)
		if len(taken) != 5 {
			t.Fatalf("%v", taken)
		}
		for n := range taken {
			if !bytes.Equal(taken[n], load(n)) {
				t.Errorf("load %d is %v", n, taken[n])
			}
		}
		own(t, taken)
		x.Send(0, load(5))
		perform(t, x, "..")
		if l := x.Take(1); len(l) != 1 || !bytes.Equal(l[0], load(5)) || taken[0][0] != 1 {
			t.Errorf("%v and %v", l, taken)
		}
	}
}

// own fills loads, appending to them where there is room, and checks that none changes another one.
func own(t *testing.T, l [][]byte) {
	t.Helper()
	if cap(l) != len(l) {
		t.Errorf("%d loads, with room for %d", len(l), cap(l))
	}
	for i := range l {
		if cap(l[i]) != len(l[i]) {
			t.Errorf("load %d has %d octets, with room for %d", i, len(l[i]), cap(l[i]))
		}
		for j := range l[i] {
			l[i][j] = byte(i + 1)
		}
	}
	for i := range l {
		if !bytes.Equal(l[i], bytes.Repeat([]byte{byte(i + 1)}, len(l[i]))) {
			t.Errorf("load %d is %v", i, l[i])
		}
	}
}
