package lines_test

import (
	"bytes"
	"math"
	"slices"
	"strings"
	"testing"

	"pointcode/api"
	"pointcode/lines"
)

// stream returns the stream of a text; other digits than 0 and 1 become invalid elements.
func stream(s string) []byte {
	out := make([]byte, 0, len(s))
	for i := range len(s) {
		out = append(out, s[i]-'0')
	}
	return out
}

// text returns the text of a stream.
func text(s []byte) string {
	out := make([]byte, 0, len(s))
	for _, b := range s {
		out = append(out, b+'0')
	}
	return string(out)
}

// texts returns all texts of at most n characters 0 and 1.
func texts(n int) []string {
	out, last := []string{""}, []string{""}
	for range n {
		var next []string
		for _, s := range last {
			next = append(next, s+"0", s+"1")
		}
		out, last = append(out, next...), next
	}
	return out
}

// drop, flip and twice return disturbances of the burst with a number.
func drop(at int) lines.Noise      { return lines.Noise{At: at, Kind: lines.Drop} }
func flip(at, bit int) lines.Noise { return lines.Noise{At: at, Kind: lines.Flip, Bit: bit} }
func twice(at int) lines.Noise     { return lines.Noise{At: at, Kind: lines.Twice} }

// random is a generator of numbers that is the same in every run.
type random uint32

// below returns a number from 0 to n-1.
func (r *random) below(n int) int {
	*r = *r*1664525 + 1013904223
	return int(*r>>8) % n
}

// text returns a text of n characters 0 and 1.
func (r *random) text(n int) string {
	out := make([]byte, n)
	for i := range out {
		out[i] = '0' + byte(r.below(2))
	}
	return string(out)
}

// noise returns n disturbances of the bursts below bursts.
func (r *random) noise(n, bursts int) []lines.Noise {
	out := make([]lines.Noise, n)
	for i := range out {
		out[i] = lines.Noise{At: r.below(bursts), Kind: uint8(r.below(3)), Bit: r.below(40)}
		if r.below(8) == 0 {
			out[i].Bit = math.MaxInt - r.below(40)
		}
	}
	return out
}

// remaining returns what remains of the burst with a number, by the definition.
func remaining(s string, number int, l []lines.Noise) string {
	b := []byte(s)
	copies := 1
	for _, n := range l {
		if n.At != number {
			continue
		}
		switch n.Kind {
		case lines.Drop:
			return ""
		case lines.Flip:
			if len(b) > 0 {
				b[n.Bit%len(b)] ^= 1
			}
		case lines.Twice:
			copies = 2
		}
	}
	return strings.Repeat(string(b), copies)
}

// burst is what remains of a burst, and the tick in which it arrives.
type burst struct {
	arrives int
	rest    string
}

// model is a line that keeps all bursts.
type model struct {
	delay  int
	noise  []lines.Noise
	now    int
	bursts []burst
	taken  int
}

// until returns what remains of the bursts that have arrived until a tick.
func (x *model) until(tick int) string {
	var out strings.Builder
	for _, b := range x.bursts {
		if b.arrives <= tick {
			out.WriteString(b.rest)
		}
	}
	return out.String()
}

// send sends a burst.
func (x *model) send(s string) {
	x.bursts = append(x.bursts, burst{x.now + x.delay, remaining(s, len(x.bursts), x.noise)})
}

// take returns the bits that have arrived and have not been taken.
func (x *model) take() string {
	out := x.until(x.now)[x.taken:]
	x.taken += len(out)
	return out
}

// waiting returns how many bits have not been taken.
func (x *model) waiting() int { return len(x.until(math.MaxInt)) - x.taken }

// started returns a line on which nothing has been sent.
func started(t *testing.T, delay int, l ...lines.Noise) *lines.Line {
	t.Helper()
	x, e := lines.New(delay, l...)
	if e != api.OK || x == nil {
		t.Fatalf("New(%d, %v): %d", delay, l, e)
	}
	return x
}

// send sends a burst that has no error.
func send(t *testing.T, x *lines.Line, s string) {
	t.Helper()
	if e := x.Send(stream(s)); e != api.OK {
		t.Fatalf("Send(%s): %d", s, e)
	}
}

// ticks begins the next n ticks.
func ticks(t *testing.T, x *lines.Line, n int) {
	t.Helper()
	for range n {
		if e := x.Tick(); e != api.OK {
			t.Fatalf("Tick in tick %d: %d", x.Now(), e)
		}
	}
}

// takes checks what is taken.
func takes(t *testing.T, x *lines.Line, want string) {
	t.Helper()
	if got := x.Take(); text(got) != want {
		t.Fatalf("in tick %d %s was taken, want %s", x.Now(), text(got), want)
	}
}

// stands checks the numbers of a line.
func stands(t *testing.T, x *lines.Line, now, bursts, waiting int) {
	t.Helper()
	if x.Now() != now || x.Bursts() != bursts || x.Waiting() != waiting {
		t.Fatalf("tick %d, %d bursts, %d waiting, want %d, %d, %d", x.Now(), x.Bursts(), x.Waiting(), now, bursts, waiting)
	}
}

// none contains the lines that are no lines.
func none() map[string]*lines.Line {
	return map[string]*lines.Line{"nil": nil, "zero": new(lines.Line)}
}

// P5.1

func TestConstants(t *testing.T) {
	if lines.MaxNoise != 1024 || lines.Drop != 0 || lines.Flip != 1 || lines.Twice != 2 {
		t.Error("a constant is not that of the document")
	}
}

func TestNew(t *testing.T) {
	for delay := 1; delay <= 64; delay++ {
		for _, l := range [][]lines.Noise{nil, {}, {drop(0)}, {twice(0), flip(math.MaxInt, math.MaxInt)}} {
			x := started(t, delay, l...)
			stands(t, x, 0, 0, 0)
			takes(t, x, "")
		}
	}
}

func TestNewOfManyDisturbances(t *testing.T) {
	l := make([]lines.Noise, 1024)
	for i := range l {
		l[i] = flip(1023-i, 0)
	}
	x := started(t, 1, l...)
	for range 1024 {
		send(t, x, "000")
	}
	send(t, x, "000")
	ticks(t, x, 1)
	takes(t, x, strings.Repeat("100", 1024)+"000")
}

func TestNewDelays(t *testing.T) {
	for _, delay := range []int{0, -1, 65, 66, 128, 1 << 32, 1<<32 + 1, math.MaxInt, math.MinInt, math.MinInt + 1} {
		if x, e := lines.New(delay); x != nil || e != api.ErrArg {
			t.Errorf("delay %d: %v, %d", delay, x, e)
		}
	}
}

func TestNewKinds(t *testing.T) {
	for kind := range 256 {
		want := api.OK
		if kind > 2 {
			want = api.ErrArg
		}
		if x, e := lines.New(1, lines.Noise{Kind: uint8(kind)}); e != want || (x == nil) != (e != api.OK) {
			t.Errorf("kind %d: %v, %d", kind, x, e)
		}
	}
}

// invalid contains disturbances that no line can have.
var invalid = []lines.Noise{
	{At: -1},
	{At: math.MinInt, Kind: lines.Flip},
	{Bit: -1},
	{At: 3, Kind: lines.Flip, Bit: -1},
	{Kind: lines.Twice, Bit: math.MinInt},
	{Kind: 3},
	{At: 1, Kind: 255, Bit: 1},
	{At: -1, Kind: 9, Bit: -1},
}

func TestNewInvalidDisturbances(t *testing.T) {
	for _, n := range invalid {
		for _, count := range []int{1, 2, 1024} {
			for _, at := range []int{0, count / 2, count - 1} {
				l := make([]lines.Noise, count)
				l[at] = n
				if x, e := lines.New(1, l...); x != nil || e != api.ErrArg {
					t.Errorf("%v at %d of %d: %v, %d", n, at, count, x, e)
				}
			}
		}
	}
}

func TestNewTooManyDisturbances(t *testing.T) {
	for _, count := range []int{1025, 1026, 5000} {
		for _, delay := range []int{1, 64, 0, -1, 65} {
			l := make([]lines.Noise, count)
			if x, e := lines.New(delay, l...); x != nil || e != api.ErrLimit {
				t.Errorf("%d disturbances, delay %d: %v, %d", count, delay, x, e)
			}
			for _, n := range invalid {
				l[0] = n
				if x, e := lines.New(delay, l...); x != nil || e != api.ErrLimit {
					t.Errorf("%d disturbances, delay %d, %v: %v, %d", count, delay, n, x, e)
				}
			}
		}
	}
}

// P5.2

func TestSend(t *testing.T) {
	for name, y := range map[string]struct {
		s, want string
		l       []lines.Noise
	}{
		"undisturbed":                  {"1011", "1011", nil},
		"empty":                        {"", "", nil},
		"dropped":                      {"1011", "", []lines.Noise{drop(0)}},
		"dropped with a bit":           {"1011", "", []lines.Noise{{Kind: lines.Drop, Bit: 2}}},
		"dropped twice":                {"1011", "", []lines.Noise{drop(0), drop(0)}},
		"flipped first":                {"1011", "0011", []lines.Noise{flip(0, 0)}},
		"flipped last":                 {"1011", "1010", []lines.Noise{flip(0, 3)}},
		"flipped by the modulo":        {"1011", "0011", []lines.Noise{flip(0, 4)}},
		"flipped by a greater modulo":  {"1011", "1001", []lines.Noise{flip(0, 402)}},
		"flipped at the greatest bit":  {"1011", "1010", []lines.Noise{flip(0, math.MaxInt)}},
		"two bits flipped":             {"1011", "0001", []lines.Noise{flip(0, 0), flip(0, 2)}},
		"one bit flipped two times":    {"1011", "1011", []lines.Noise{flip(0, 1), flip(0, 1)}},
		"flipped back by the modulo":   {"1011", "1011", []lines.Noise{flip(0, 1), flip(0, 5)}},
		"one bit flipped three times":  {"1011", "1111", []lines.Noise{flip(0, 1), flip(0, 9), flip(0, 5)}},
		"the only bit flipped":         {"1", "0", []lines.Noise{flip(0, 77)}},
		"twice":                        {"1011", "10111011", []lines.Noise{twice(0)}},
		"twice with a bit":             {"1011", "10111011", []lines.Noise{{Kind: lines.Twice, Bit: 1}}},
		"twice given twice":            {"1011", "10111011", []lines.Noise{twice(0), twice(0)}},
		"flipped and twice":            {"1011", "11111111", []lines.Noise{flip(0, 1), twice(0)}},
		"twice and flipped":            {"1011", "11111111", []lines.Noise{twice(0), flip(0, 1)}},
		"twice, flipped by the modulo": {"1011", "11111111", []lines.Noise{twice(0), flip(0, 5)}},
		"flipped and dropped":          {"1011", "", []lines.Noise{flip(0, 1), drop(0)}},
		"twice and dropped":            {"1011", "", []lines.Noise{twice(0), drop(0)}},
		"dropped and all":              {"1011", "", []lines.Noise{drop(0), flip(0, 1), twice(0)}},
		"empty and flipped":            {"", "", []lines.Noise{flip(0, 0)}},
		"empty and flipped by more":    {"", "", []lines.Noise{flip(0, 3), flip(0, math.MaxInt)}},
		"empty and twice":              {"", "", []lines.Noise{twice(0)}},
		"empty and dropped":            {"", "", []lines.Noise{drop(0)}},
		"another burst disturbed":      {"1011", "1011", []lines.Noise{drop(1), flip(2, 0), twice(math.MaxInt)}},
	} {
		t.Run(name, func(t *testing.T) {
			x := started(t, 1, y.l...)
			send(t, x, y.s)
			stands(t, x, 0, 1, len(y.want))
			ticks(t, x, 1)
			takes(t, x, y.want)
			stands(t, x, 1, 1, 0)
		})
	}
}

// Every list of up to three disturbances of two bursts, in every order.
func TestSendOfEveryShortList(t *testing.T) {
	var all []lines.Noise
	for at := range 2 {
		all = append(all, drop(at), twice(at), flip(at, 0), flip(at, 1), flip(at, 2), flip(at, 5))
	}
	lists, last := [][]lines.Noise{nil}, [][]lines.Noise{nil}
	for range 3 {
		var next [][]lines.Noise
		for _, l := range last {
			for _, n := range all {
				next = append(next, append(slices.Clone(l), n))
			}
		}
		lists, last = append(lists, next...), next
	}
	pairs := [][2]string{{"", ""}, {"1", "01"}, {"011", ""}, {"", "100"}, {"10", "0010"}}
	for _, l := range lists {
		for _, pair := range pairs {
			x := started(t, 1, l...)
			send(t, x, pair[0])
			send(t, x, pair[1])
			ticks(t, x, 1)
			want := remaining(pair[0], 0, l) + remaining(pair[1], 1, l)
			if got := text(x.Take()); got != want {
				t.Fatalf("%v on %v: %s, want %s", pair, l, got, want)
			}
		}
	}
}

// invalidStreams contains streams with their errors.
var invalidStreams = []struct {
	name string
	s    []byte
	e    api.Errno
}{
	{"one element 2", stream("2"), api.ErrArg},
	{"the first element is invalid", stream("30000000"), api.ErrArg},
	{"the last element is invalid", stream("000000009"), api.ErrArg},
	{"a digit instead of an element", []byte("1"), api.ErrArg},
	{"an invalid element at the limit", append(make([]byte, api.MaxBits-1), 2), api.ErrArg},
	{"too long", make([]byte, api.MaxBits+1), api.ErrLimit},
	{"too long, with an invalid element", append(make([]byte, api.MaxBits), 2), api.ErrLimit},
}

// An error changes nothing, whatever the disturbances of the burst; they disturb the next burst that is sent.
func TestSendErrors(t *testing.T) {
	for _, y := range invalidStreams {
		for _, n := range []lines.Noise{drop(1), flip(1, 0), twice(1), drop(9)} {
			x := started(t, 1, n)
			send(t, x, "01")
			if e := x.Send(y.s); e != y.e {
				t.Errorf("%s, %v: %d, want %d", y.name, n, e, y.e)
			}
			stands(t, x, 0, 1, 2)
			send(t, x, "001")
			ticks(t, x, 1)
			takes(t, x, "01"+remaining("001", 1, []lines.Noise{n}))
		}
	}
}

func TestSendWithoutLine(t *testing.T) {
	for name, x := range none() {
		for _, s := range [][]byte{nil, {}, {0, 1}, {2}, make([]byte, api.MaxBits+1)} {
			if e := x.Send(s); e != api.ErrNil {
				t.Errorf("%s: %d", name, e)
			}
		}
	}
}

// zeros returns a stream of n zeros.
func zeros(n int) []byte { return make([]byte, n) }

func TestSendOnFullLine(t *testing.T) {
	x := started(t, 2, drop(3), twice(4), twice(5))
	if e := x.Send(zeros(api.MaxBits - 10)); e != api.OK {
		t.Fatal(e)
	}
	if e := x.Send(zeros(11)); e != api.ErrFull {
		t.Errorf("one bit too many: %d", e)
	}
	stands(t, x, 0, 1, api.MaxBits-10)
	send(t, x, "0000000000")
	stands(t, x, 0, 2, api.MaxBits)
	if e := x.Send(stream("0")); e != api.ErrFull {
		t.Errorf("full: %d", e)
	}
	send(t, x, "")
	if e := x.Send(zeros(api.MaxBits)); e != api.OK {
		t.Errorf("nothing remains: %d", e)
	}
	stands(t, x, 0, 4, api.MaxBits)
	for _, y := range invalidStreams {
		if e := x.Send(y.s); e != y.e {
			t.Errorf("full, %s: %d, want %d", y.name, e, y.e)
		}
	}
	stands(t, x, 0, 4, api.MaxBits)
	ticks(t, x, 2)
	if e := x.Send(stream("1")); e != api.ErrFull {
		t.Errorf("nothing has been taken: %d", e)
	}
	stands(t, x, 2, 4, api.MaxBits)
	if got := x.Take(); len(got) != api.MaxBits {
		t.Errorf("%d bits", len(got))
	}
	if e := x.Send(zeros(api.MaxBits/2 + 1)); e != api.ErrFull {
		t.Errorf("twice one bit more than half: %d", e)
	}
	stands(t, x, 2, 4, 0)
	if e := x.Send(zeros(api.MaxBits / 2)); e != api.OK {
		t.Errorf("twice the half: %d", e)
	}
	if e := x.Send(stream("1")); e != api.ErrFull {
		t.Errorf("full, and twice one bit: %d", e)
	}
	stands(t, x, 2, 5, api.MaxBits)
}

// Without room a burst is not sent, so its disturbances disturb the next one.
func TestSendBehindErrFull(t *testing.T) {
	x := started(t, 1, twice(1), flip(1, 0))
	x.Send(zeros(api.MaxBits - 3))
	for range 3 {
		if e := x.Send(stream("00")); e != api.ErrFull {
			t.Errorf("four bits in the place of three: %d", e)
		}
	}
	send(t, x, "0")
	ticks(t, x, 1)
	if got := x.Take(); !bytes.Equal(got, append(zeros(api.MaxBits-3), 1, 1)) {
		t.Errorf("%d bits, %s at the end", len(got), text(got[len(got)-3:]))
	}
}

// P5.3

func TestTickAndTake(t *testing.T) {
	for delay := 1; delay <= 64; delay++ {
		x := started(t, delay)
		for range 3 {
			send(t, x, "10")
			for range delay - 1 {
				ticks(t, x, 1)
				takes(t, x, "")
			}
			ticks(t, x, 1)
			takes(t, x, "10")
			takes(t, x, "")
		}
		stands(t, x, 3*delay, 3, 0)
	}
}

// Bursts of all ticks are under way, and what is not taken in its tick stays.
func TestTakeLater(t *testing.T) {
	for delay := 1; delay <= 64; delay++ {
		for _, pause := range []int{1, 2, 3, delay, delay + 1, 150} {
			r := random(delay)
			x, y := started(t, delay), model{delay: delay}
			for i := range 150 {
				if i%pause == 0 {
					takes(t, x, y.take())
				}
				s := r.text(r.below(4))
				send(t, x, s)
				y.send(s)
				ticks(t, x, 1)
				y.now++
			}
			takes(t, x, y.take())
			stands(t, x, 150, 150, y.waiting())
		}
	}
}

// Several bursts of one tick arrive together, in the order in which they were sent.
func TestTakeOfOneTick(t *testing.T) {
	x := started(t, 3, drop(1))
	for _, s := range []string{"11", "101", "", "0", "01"} {
		send(t, x, s)
	}
	ticks(t, x, 1)
	send(t, x, "111")
	ticks(t, x, 2)
	takes(t, x, "11001")
	send(t, x, "000")
	takes(t, x, "")
	ticks(t, x, 1)
	takes(t, x, "111")
	ticks(t, x, 2)
	takes(t, x, "000")
}

func TestLastTick(t *testing.T) {
	x := started(t, 64)
	ticks(t, x, api.MaxTicks-65)
	send(t, x, "011")
	ticks(t, x, 1)
	send(t, x, "10")
	ticks(t, x, 1)
	send(t, x, "0000")
	ticks(t, x, 63)
	stands(t, x, api.MaxTicks, 3, 9)
	for range 3 {
		if e := x.Tick(); e != api.ErrLimit {
			t.Fatalf("Tick in the last tick: %d", e)
		}
		stands(t, x, api.MaxTicks, 3, 9)
	}
	takes(t, x, "01110")
	send(t, x, "11")
	if e := x.Tick(); e != api.ErrLimit {
		t.Fatalf("Tick in the last tick: %d", e)
	}
	takes(t, x, "")
	stands(t, x, api.MaxTicks, 4, 6)
}

func TestTickAndTakeWithoutLine(t *testing.T) {
	for name, x := range none() {
		for range 3 {
			if e := x.Tick(); e != api.ErrNil {
				t.Errorf("%s: %d", name, e)
			}
			if got := x.Take(); len(got) != 0 {
				t.Errorf("%s: %v", name, got)
			}
		}
	}
}

// P5.4

func TestNumbers(t *testing.T) {
	x := started(t, 2, drop(1), twice(2))
	for i, y := range []struct {
		s                   string
		now, bursts, queued int
	}{{"101", 0, 1, 3}, {"11", 0, 2, 3}, {"01", 0, 3, 7}, {"", 0, 4, 7}, {"1", 0, 5, 8}} {
		send(t, x, y.s)
		if x.Now() != y.now || x.Bursts() != y.bursts || x.Waiting() != y.queued {
			t.Errorf("%d: %d, %d, %d", i, x.Now(), x.Bursts(), x.Waiting())
		}
	}
	takes(t, x, "")
	stands(t, x, 0, 5, 8)
	ticks(t, x, 1)
	stands(t, x, 1, 5, 8)
	send(t, x, "000")
	stands(t, x, 1, 6, 11)
	ticks(t, x, 1)
	stands(t, x, 2, 6, 11)
	takes(t, x, "10101011")
	stands(t, x, 2, 6, 3)
	ticks(t, x, 5)
	stands(t, x, 7, 6, 3)
	takes(t, x, "000")
	stands(t, x, 7, 6, 0)
}

func TestNumbersWithoutLine(t *testing.T) {
	for name, x := range none() {
		x.Send([]byte{1})
		x.Tick()
		if x.Now() != 0 || x.Bursts() != 0 || x.Waiting() != 0 {
			t.Errorf("%s: %d, %d, %d", name, x.Now(), x.Bursts(), x.Waiting())
		}
	}
}

// P5.5

// example is the line of the chapter's example.
func example(t *testing.T) *lines.Line {
	t.Helper()
	return started(t, 2, flip(1, 4), drop(2), twice(3))
}

func TestExample(t *testing.T) {
	x := example(t)
	for _, s := range []string{"101", "101", "11", "01"} {
		send(t, x, s)
	}
	stands(t, x, 0, 4, 10)
	ticks(t, x, 1)
	takes(t, x, "")
	ticks(t, x, 1)
	takes(t, x, "1011110101")
	if y, e := lines.New(0); y != nil || e != api.ErrArg {
		t.Errorf("New(0): %d", e)
	}
	if y, e := lines.New(1, lines.Noise{At: 0, Kind: 3, Bit: 0}); y != nil || e != api.ErrArg {
		t.Errorf("New(1, {0, 3, 0}): %d", e)
	}
}

// Whatever is done with a line, it stands as the model does, and what has been taken is the beginning of what remains of all bursts.
func TestTakenIsTheBeginning(t *testing.T) {
	r := random(1)
	for range 400 {
		noise := r.noise(r.below(40), 60)
		delay := 1 + r.below(64)
		if r.below(2) == 0 {
			delay = 1 + r.below(4)
		}
		x, y := started(t, delay, noise...), model{delay: delay, noise: noise}
		taken := ""
		for range 300 {
			switch r.below(4) {
			case 0:
				s := r.text(r.below(20))
				send(t, x, s)
				y.send(s)
			case 1, 2:
				ticks(t, x, 1)
				y.now++
			case 3:
				want := y.take()
				got := text(x.Take())
				taken += got
				if got != want || !strings.HasPrefix(y.until(math.MaxInt), taken) {
					t.Fatalf("%s was taken, want %s", got, want)
				}
			}
			stands(t, x, y.now, len(y.bursts), y.waiting())
		}
	}
}

func TestWithoutDisturbances(t *testing.T) {
	all := texts(7)
	for _, delay := range []int{1, 2, 3, 7, 64} {
		x := started(t, delay)
		for i := range len(all) + delay {
			if i >= delay {
				takes(t, x, all[i-delay])
			} else {
				takes(t, x, "")
			}
			if i < len(all) {
				send(t, x, all[i])
			}
			ticks(t, x, 1)
		}
		stands(t, x, len(all)+delay, len(all), 0)
	}
}

// A burst is sent in each tick on two lines, one of which has a disturbance more than the other: only its burst differs.
func TestOtherBurstsAreUndisturbed(t *testing.T) {
	r := random(5)
	for range 300 {
		delay := 1 + r.below(5)
		noise := r.noise(r.below(10), 20)
		more := r.noise(1, 20)[0]
		x, y := started(t, delay, noise...), started(t, delay, slices.Concat(noise, []lines.Noise{more})...)
		for i := range 20 + delay {
			a, b := text(x.Take()), text(y.Take())
			if a != b && i-delay != more.At {
				t.Fatalf("the burst %d is %s without %v, and %s with it", i-delay, a, more, b)
			}
			s := r.text(r.below(10))
			send(t, x, s)
			send(t, y, s)
			ticks(t, x, 1)
			ticks(t, y, 1)
		}
	}
}

// The order in which disturbances are given changes nothing.
func TestOrderOfDisturbances(t *testing.T) {
	r := random(8)
	for range 300 {
		noise := r.noise(12, 4)
		turned := slices.Clone(noise)
		slices.Reverse(turned)
		x, y := started(t, 1, noise...), started(t, 1, turned...)
		for range 4 {
			s := r.text(r.below(6))
			send(t, x, s)
			send(t, y, s)
		}
		ticks(t, x, 1)
		ticks(t, y, 1)
		takes(t, x, text(y.Take()))
	}
}

// R1, R3, R4

func TestArgumentsStay(t *testing.T) {
	noise := []lines.Noise{twice(3), drop(2), flip(1, 4), flip(0, 0), drop(9)}
	kept := slices.Clone(noise)
	x := started(t, 1, noise...)
	s := stream("1011001")
	for range 10 {
		if e := x.Send(s); e != api.OK {
			t.Fatal(e)
		}
	}
	ticks(t, x, 1)
	x.Take()
	if !slices.Equal(noise, kept) || text(s) != "1011001" {
		t.Error("an argument was modified")
	}
}

// A line keeps none of the memory of its arguments.
func TestArgumentsAreNotKept(t *testing.T) {
	noise := []lines.Noise{flip(0, 0), twice(1)}
	x := started(t, 1, noise...)
	noise[0], noise[1] = drop(0), drop(1)
	s := stream("000")
	for range 3 {
		if e := x.Send(s); e != api.OK {
			t.Fatal(e)
		}
		s[1] ^= 1
	}
	for i := range s {
		s[i] = 7
	}
	ticks(t, x, 1)
	takes(t, x, "100010010000")
}

func TestNilAndEmpty(t *testing.T) {
	for _, s := range [][]byte{nil, {}} {
		for _, l := range [][]lines.Noise{nil, {}, {flip(0, 1)}, {twice(0)}} {
			x := started(t, 1, l...)
			if e := x.Send(s); e != api.OK {
				t.Errorf("no bits on %v: %d", l, e)
			}
			stands(t, x, 0, 1, 0)
			ticks(t, x, 1)
			takes(t, x, "")
		}
	}
}

// What is taken is new memory: it shares none with the line, or with what is taken before or after it.
func TestTakenIsNew(t *testing.T) {
	x := started(t, 1)
	var taken [][]byte
	var want []string
	r := random(3)
	for range 200 {
		s := r.text(r.below(30))
		send(t, x, s)
		want = append(want, s)
		ticks(t, x, 1)
		send(t, x, "01")
		got := x.Take()
		if cap(got) != len(got) {
			t.Fatalf("capacity %d of %d bits", cap(got), len(got))
		}
		taken = append(taken, got)
		ticks(t, x, 1)
		got = x.Take()
		if text(got) != "01" {
			t.Fatalf("%s was taken, want 01", text(got))
		}
		got[0], got[1] = 8, 9
	}
	for i, got := range taken {
		if text(got) != want[i] {
			t.Fatalf("%d: %s was changed to %s", i, want[i], text(got))
		}
		for k := range got {
			got[k] = 5
		}
	}
}

// Two lines with the same disturbances have nothing in common.
func TestLinesAreApart(t *testing.T) {
	noise := []lines.Noise{flip(1, 0), drop(0)}
	x, y := started(t, 1, noise...), started(t, 1, noise...)
	send(t, x, "000")
	send(t, x, "000")
	stands(t, y, 0, 0, 0)
	ticks(t, x, 1)
	stands(t, y, 0, 0, 0)
	send(t, y, "11")
	ticks(t, y, 1)
	takes(t, y, "")
	takes(t, x, "100")
}
