package changes_test

import (
	"math"
	"reflect"
	"slices"
	"testing"

	"pointcode/api"
	"pointcode/changes"
)

type (
	end  = changes.End
	item = changes.Item
)

// numbered returns an item whose fields all follow from its number.
func numbered(n int) item {
	label := api.Label{To: api.Point(n), From: api.Point(n + 1), Select: uint8(n % 16)}
	return item{Number: n, Message: api.Message{Service: uint8(n % 16), Network: uint8(n % 4), Priority: uint8(n % 3), Label: label, Data: []byte{byte(n), byte(n >> 8)}}}
}

// sent returns an end that has sent the items with the numbers 1 to n.
func sent(t *testing.T, n int) *end {
	t.Helper()
	x := changes.New()
	for i := range n {
		wantNumber(t, x, numbered(i+1), i+1)
	}
	return x
}

// wantNumber sends an item that must be given a number.
func wantNumber(t *testing.T, x *end, m item, want int) {
	t.Helper()
	if n, e := x.Send(m); n != want || e != api.OK {
		t.Fatalf("Send is %d, %d, not %d", n, e, want)
	}
}

// wantError checks the error of an act by its name.
func wantError(t *testing.T, what string, got, want api.Errno) {
	t.Helper()
	if got != want {
		t.Errorf("%s is %d, not %d", what, got, want)
	}
}

// wantState checks what can be seen of an end.
func wantState(t *testing.T, x *end, state changes.State, retained, last int) {
	t.Helper()
	if x.State() != state || x.Retained() != retained || x.Last() != last {
		t.Errorf("the end is %d with %d retained and the last %d, not %d with %d and %d", x.State(), x.Retained(), x.Last(), state, retained, last)
	}
}

// wantItems checks that items are those with the given numbers, whole and in order.
func wantItems(t *testing.T, what string, got []item, numbers ...int) {
	t.Helper()
	var want []item
	for _, n := range numbers {
		want = append(want, numbered(n))
	}
	if len(got) != len(want) || len(got) > 0 && !reflect.DeepEqual(got, want) {
		t.Errorf("%s is %v, not %v", what, got, want)
	}
}

// wantTold tells a last number that must be accepted.
func wantTold(t *testing.T, x *end, last int, numbers ...int) {
	t.Helper()
	l, e := x.Told(last)
	if e != api.OK {
		t.Fatalf("Told(%d) is %d", last, e)
	}
	wantItems(t, "Told", l, numbers...)
}

// fail makes an end fail that must be Up.
func fail(t *testing.T, x *end, now, last int) {
	t.Helper()
	if n, e := x.Fail(now); n != last || e != api.OK {
		t.Fatalf("Fail is %d, %d, not %d", n, e, last)
	}
}

// ok checks that an act has succeeded.
func ok(t *testing.T, e api.Errno) {
	t.Helper()
	if e != api.OK {
		t.Fatalf("an act is %d", e)
	}
}

// TestExample checks the example of the chapter. (P16.2 to P16.6)
func TestExample(t *testing.T) {
	prepared := func() *end {
		x := sent(t, 3)
		ok(t, x.Acked(1))
		fail(t, x, 10, 0)
		return x
	}
	wantTold(t, prepared(), 2, 3)
	x := prepared()
	l, e := x.Told(0)
	wantError(t, "Told(0)", e, api.ErrArg)
	wantItems(t, "Told(0)", l)
	wantState(t, x, changes.Waiting, 2, 0)
	l, is := x.Tick(14, 5)
	wantItems(t, "Tick(14, 5)", l)
	wantState(t, x, changes.Waiting, 2, 0)
	if is {
		t.Error("Tick(14, 5) is true")
	}
	l, is = x.Tick(15, 5)
	wantItems(t, "Tick(15, 5)", l, 2, 3)
	wantState(t, x, changes.Idle, 0, 0)
	if !is {
		t.Error("Tick(15, 5) is false")
	}
}

// TestNew checks a new end, and that ends do not share anything. (P16.1)
func TestNew(t *testing.T) {
	x, y := changes.New(), changes.New()
	wantState(t, x, changes.Up, 0, 0)
	wantNumber(t, x, numbered(1), 1)
	ok(t, x.Arrive(1))
	fail(t, x, 0, 1)
	wantState(t, x, changes.Waiting, 1, 1)
	wantState(t, y, changes.Up, 0, 0)
	if changes.Up != 0 || changes.Waiting != 1 || changes.Idle != 2 {
		t.Error("the states have other numbers")
	}
}

// TestNone checks nil and zero ends. (P16.1 to P16.7)
func TestNone(t *testing.T) {
	for _, x := range []*end{nil, {}, new(changes.End)} {
		for range 2 {
			wantState(t, x, changes.Idle, 0, 0)
			n, e := x.Send(numbered(1))
			wantError(t, "Send", e, api.ErrNil)
			last, e2 := x.Fail(3)
			wantError(t, "Fail", e2, api.ErrNil)
			if n != 0 || last != 0 {
				t.Error("a number of an end that is none:", n, last)
			}
			for _, number := range []int{-1, 0, 1, math.MaxInt, math.MinInt} {
				wantError(t, "Arrive", x.Arrive(number), api.ErrNil)
				wantError(t, "Acked", x.Acked(number), api.ErrNil)
				l, e := x.Told(number)
				wantError(t, "Told", e, api.ErrNil)
				wantItems(t, "Told", l)
				l, is := x.Tick(number, 0)
				wantItems(t, "Tick", l)
				if is {
					t.Error("Tick is true")
				}
			}
			wantError(t, "Restore", x.Restore(), api.ErrNil)
		}
	}
}

// TestSend checks the numbers that are given, also those after acknowledgements. (P16.2)
func TestSend(t *testing.T) {
	x := sent(t, 4)
	wantState(t, x, changes.Up, 4, 0)
	ok(t, x.Acked(4))
	wantState(t, x, changes.Up, 0, 0)
	// The number of a message in the network does not matter, nor whether there are two with the same one.
	for i, m := range []item{{}, {Number: -7}, {Number: math.MinInt}, numbered(5), numbered(5), {Message: api.Message{Data: make([]byte, 1000)}}} {
		wantNumber(t, x, m, 5+i)
	}
	wantState(t, x, changes.Up, 6, 0)
}

// TestFull checks the limit of retained items. (P16.2)
func TestFull(t *testing.T) {
	x := sent(t, api.MaxFlight)
	for range 2 {
		n, e := x.Send(numbered(1))
		wantError(t, "Send", e, api.ErrFull)
		if n != 0 {
			t.Error("the number with the error is", n)
		}
		wantState(t, x, changes.Up, api.MaxFlight, 0)
	}
	ok(t, x.Acked(3))
	for i := range 3 {
		wantNumber(t, x, numbered(i), api.MaxFlight+1+i)
	}
	_, e := x.Send(numbered(1))
	wantError(t, "Send", e, api.ErrFull)
	fail(t, x, 0, 0)
	_, e = x.Send(numbered(1))
	wantError(t, "Send of a full end that waits", e, api.ErrState)
	wantTold(t, x, api.MaxFlight+1, 1, 2)
}

// TestArrive checks that items must arrive without gaps. (P16.3)
func TestArrive(t *testing.T) {
	x := sent(t, 2)
	for last := range 300 {
		for _, n := range []int{last, last + 2, last - 1, 0, -1, -last - 1, math.MaxInt, math.MinInt} {
			wantError(t, "Arrive of a wrong number", x.Arrive(n), api.ErrArg)
		}
		wantState(t, x, changes.Up, 2, last)
		ok(t, x.Arrive(last+1))
		wantState(t, x, changes.Up, 2, last+1)
	}
	fail(t, x, 5, 300)
	wantError(t, "Arrive while waiting", x.Arrive(301), api.ErrState)
	wantError(t, "Arrive of a wrong number while waiting", x.Arrive(302), api.ErrState)
	wantState(t, x, changes.Waiting, 2, 300)
	wantTold(t, x, 2)
	wantError(t, "Arrive while idle", x.Arrive(301), api.ErrState)
	wantError(t, "Arrive of a wrong number while idle", x.Arrive(0), api.ErrState)
	wantState(t, x, changes.Idle, 0, 300)
}

// TestAcked checks which items are retained after acknowledgements. (P16.3)
func TestAcked(t *testing.T) {
	x := changes.New()
	wantError(t, "Acked(1) of nothing", x.Acked(1), api.ErrArg)
	wantError(t, "Acked(0) of nothing", x.Acked(0), api.OK)
	x = sent(t, 9)
	retained := 9
	for _, c := range []struct{ number, retained int }{{0, 9}, {1, 8}, {1, 8}, {0, 8}, {4, 5}, {2, 5}, {3, 5}, {8, 1}, {0, 1}, {9, 0}, {5, 0}, {9, 0}} {
		for _, n := range []int{-1, 10, 11, math.MaxInt, math.MinInt} {
			wantError(t, "Acked of a wrong number", x.Acked(n), api.ErrArg)
		}
		wantState(t, x, changes.Up, retained, 0)
		wantError(t, "Acked", x.Acked(c.number), api.OK)
		retained = c.retained
		wantState(t, x, changes.Up, retained, 0)
	}
	wantNumber(t, x, numbered(10), 10)
	fail(t, x, 5, 0)
	for _, n := range []int{10, 9, 0, -1, 11} {
		wantError(t, "Acked while waiting", x.Acked(n), api.ErrState)
	}
	wantTold(t, x, 9, 10)
	for _, n := range []int{10, 9, 0, -1, 11} {
		wantError(t, "Acked while idle", x.Acked(n), api.ErrState)
	}
}

// TestFail checks that an end fails once. (P16.4)
func TestFail(t *testing.T) {
	x := sent(t, 2)
	ok(t, x.Arrive(1))
	ok(t, x.Arrive(2))
	ok(t, x.Arrive(3))
	fail(t, x, 5, 3)
	wantState(t, x, changes.Waiting, 2, 3)
	n, e := x.Fail(100)
	wantError(t, "Fail while waiting", e, api.ErrState)
	if n != 0 {
		t.Error("the number with the error is", n)
	}
	// The second Fail has not changed the tick of the first one.
	if _, is := x.Tick(15, 10); !is {
		t.Error("the time is not over")
	}
	wantState(t, x, changes.Idle, 0, 3)
	n, e = x.Fail(5)
	wantError(t, "Fail while idle", e, api.ErrState)
	if n != 0 {
		t.Error("the number with the error is", n)
	}
	wantState(t, x, changes.Idle, 0, 3)
}

// TestTold checks the items for every last number, after every acknowledgement. (P16.5)
func TestTold(t *testing.T) {
	for count := range 7 {
		for acked := range count + 1 {
			for last := -2; last < count+3; last++ {
				x := sent(t, count)
				ok(t, x.Acked(acked))
				ok(t, x.Arrive(1))
				l, e := x.Told(last)
				wantError(t, "Told before Fail", e, api.ErrState)
				wantItems(t, "Told before Fail", l)
				fail(t, x, 0, 1)
				l, e = x.Told(last)
				if last < acked || last > count {
					wantError(t, "Told", e, api.ErrArg)
					wantItems(t, "Told", l)
					wantState(t, x, changes.Waiting, count-acked, 1)
					l, e = x.Told(acked)
					wantItems(t, "Told again", l, numbersFrom(acked+1, count)...)
				} else {
					wantItems(t, "Told", l, numbersFrom(last+1, count)...)
				}
				wantError(t, "Told", e, api.OK)
				wantState(t, x, changes.Idle, 0, 1)
				l, e = x.Told(last)
				wantError(t, "Told while idle", e, api.ErrState)
				wantItems(t, "Told while idle", l)
			}
		}
	}
	x := sent(t, 3)
	fail(t, x, 0, 0)
	for _, n := range []int{math.MinInt, math.MaxInt} {
		l, e := x.Told(n)
		wantError(t, "Told", e, api.ErrArg)
		wantItems(t, "Told", l)
	}
}

// numbersFrom returns the numbers from a to b.
func numbersFrom(a, b int) []int {
	var out []int
	for n := a; n <= b; n++ {
		out = append(out, n)
	}
	return out
}

// TestTick checks when the time is over, also at the ends of the range of int. (P16.6)
func TestTick(t *testing.T) {
	const least, most = math.MinInt, math.MaxInt
	for _, c := range []struct {
		failed, now, base int
		is                bool
	}{
		{7, 16, 10, false}, {7, 17, 10, true}, {7, 18, 10, true}, {7, most, 10, true},
		{7, 6, 0, false}, {7, 7, 0, true}, {7, 4, -2, false}, {7, 5, -2, true}, {7, least, -2, false},
		{-5, 0, 6, false}, {-5, 1, 6, true}, {0, -1, 0, false}, {0, 0, 0, true},
		{most, most, most, true}, {most, most - 1, most, false}, {most - 1, most - 1, 5, false}, {most - 1, most, 5, true},
		{most, most - 1, 1, false}, {most - 1, most - 1, 1, false}, {most - 1, most, 1, true}, {most - 1, most, 2, true}, {most - 1, most - 1, 2, false},
		{1, most - 1, most, false}, {1, most, most, true}, {0, most - 1, most, false}, {0, most, most, true}, {-1, most - 2, most, false}, {-1, most - 1, most, true},
		{least, least, least, true}, {least, least, -1, true}, {least, least, 0, true}, {least, least, 1, false}, {least, least + 1, 1, true},
		{least + 1, least, -1, true}, {least + 2, least, -1, false}, {least + 2, least + 1, -1, true}, {-1, least, least, true}, {0, least, least, true}, {1, least, least, false}, {1, least + 1, least, true},
		{least, -2, most, false}, {least, -1, most, true}, {most, -2, least, false}, {most, -1, least, true},
	} {
		x := sent(t, 2)
		l, is := x.Tick(c.now, c.base)
		wantItems(t, "Tick before Fail", l)
		if is {
			t.Error("Tick is true before Fail")
		}
		wantState(t, x, changes.Up, 2, 0)
		fail(t, x, c.failed, 0)
		l, is = x.Tick(c.now, c.base)
		if is != c.is {
			t.Fatalf("Tick(%d, %d) after Fail(%d) is %t", c.now, c.base, c.failed, is)
		}
		if !is {
			wantItems(t, "Tick too early", l)
			wantState(t, x, changes.Waiting, 2, 0)
			continue
		}
		wantItems(t, "Tick", l, 1, 2)
		wantState(t, x, changes.Idle, 0, 0)
		l, is = x.Tick(c.now, c.base)
		wantItems(t, "Tick while idle", l)
		if is {
			t.Error("Tick is true while idle")
		}
	}
}

// TestTickOfNothing checks that the time ends also if nothing is retained. (P16.6)
func TestTickOfNothing(t *testing.T) {
	x := changes.New()
	fail(t, x, 3, 0)
	l, is := x.Tick(3, 0)
	wantItems(t, "Tick", l)
	if !is {
		t.Error("Tick is false")
	}
	wantState(t, x, changes.Idle, 0, 0)
}

// TestRestore checks that an idle end becomes new, however it became idle. (P16.7)
func TestRestore(t *testing.T) {
	for _, told := range []bool{true, false} {
		x := sent(t, 3)
		for round := range 4 {
			ok(t, x.Arrive(1))
			ok(t, x.Acked(2))
			wantError(t, "Restore while up", x.Restore(), api.ErrState)
			wantState(t, x, changes.Up, 1, 1)
			fail(t, x, 10*round, 1)
			wantError(t, "Restore while waiting", x.Restore(), api.ErrState)
			wantState(t, x, changes.Waiting, 1, 1)
			if told {
				wantTold(t, x, 2, 3)
			} else if l, is := x.Tick(10*round, 0); !is || len(l) != 1 {
				t.Error("Tick:", l, is)
			}
			wantState(t, x, changes.Idle, 0, 1)
			ok(t, x.Restore())
			wantState(t, x, changes.Up, 0, 0)
			wantError(t, "Acked(1) of nothing", x.Acked(1), api.ErrArg)
			wantError(t, "Arrive(2) of nothing", x.Arrive(2), api.ErrArg)
			for i := range 3 {
				wantNumber(t, x, numbered(i+1), i+1)
			}
		}
	}
}

// TestMemory checks that an end keeps no memory of its arguments, and shares none with its results. (R1, R4)
func TestMemory(t *testing.T) {
	x := changes.New()
	var given []item
	for n := range 40 {
		m := numbered(n)
		m.Message.Data = make([]byte, n, n+3)
		for i := range m.Message.Data {
			m.Message.Data[i] = byte(n)
		}
		given = append(given, m)
		wantNumber(t, x, m, n+1)
	}
	for n, m := range given {
		if slices.ContainsFunc(m.Message.Data, func(b byte) bool { return b != byte(n) }) {
			t.Fatal("Send has changed its argument")
		}
		spoil(m.Message.Data)
	}
	ok(t, x.Acked(3))
	fail(t, x, 0, 0)
	l, e := x.Told(5)
	if e != api.OK || len(l) != 35 || cap(l) != 35 {
		t.Fatal("Told:", len(l), cap(l), e)
	}
	ok(t, x.Restore())
	for i, m := range l {
		want := numbered(i + 5)
		want.Message.Data = slices.Repeat([]byte{byte(i + 5)}, i+5)
		if !reflect.DeepEqual(m, want) || cap(m.Message.Data) != len(m.Message.Data) {
			t.Fatalf("%v is not %v", m, want)
		}
		wantNumber(t, x, m, i+1)
		spoil(m.Message.Data)
	}
	clear(l)
	fail(t, x, 0, 0)
	l, is := x.Tick(0, 0)
	if !is || len(l) != 35 || cap(l) != 35 {
		t.Fatal("Tick:", len(l), cap(l), is)
	}
	for i, m := range l {
		if want := slices.Repeat([]byte{byte(i + 5)}, i+5); !slices.Equal(m.Message.Data, want) || cap(m.Message.Data) != len(want) {
			t.Fatalf("%v does not have the contents %v", m, want)
		}
	}
}

// spoil changes memory, also behind its length.
func spoil(l []byte) {
	for i := range l[:cap(l)] {
		l[:cap(l)][i] = 255
	}
}

// TestData checks that a nil and an empty Data are the same. (R3)
func TestData(t *testing.T) {
	x := changes.New()
	wantNumber(t, x, item{Number: 1}, 1)
	wantNumber(t, x, item{Number: 2, Message: api.Message{Data: []byte{}}}, 2)
	fail(t, x, 0, 0)
	l, e := x.Told(0)
	if e != api.OK || len(l) != 2 || len(l[0].Message.Data)+len(l[1].Message.Data) != 0 {
		t.Error("Told:", l, e)
	}
}

// TestFields checks that an end has no exported fields. (R5)
func TestFields(t *testing.T) {
	of := reflect.TypeFor[changes.End]()
	for i := range of.NumField() {
		if of.Field(i).IsExported() {
			t.Error("exported:", of.Field(i).Name)
		}
	}
}
