package transfers_test

import (
	"testing"

	"pointcode/api"
	"pointcode/transfers"
)

// TestTell checks what is told when statuses become worse and better. (P15.5)
func TestTell(t *testing.T) {
	x := newTable(t, ladder(), 3)
	hear(t, x, note{To: 4, About: 6, Status: p}, note{To: 5, About: 6, Status: p})
	wantNotes(t, "Tell of r", x.Tell(), note{To: 1, About: 6, Status: r}, note{To: 2, About: 6, Status: r}, note{To: 4, About: 6, Status: r}, note{To: 5, About: 6, Status: r})
	wantNotes(t, "Tell of r again", x.Tell())
	hear(t, x, note{To: 2, About: 6, Status: p})
	wantNotes(t, "Tell of p", x.Tell(), note{To: 1, About: 6, Status: p}, note{To: 2, About: 6, Status: p}, note{To: 4, About: 6, Status: p}, note{To: 5, About: 6, Status: p})
	wantNotes(t, "Tell of p again", x.Tell())
	hear(t, x, note{To: 4, About: 6, Status: a})
	wantNotes(t, "Tell of a", x.Tell(), note{To: 1, About: 6}, note{To: 2, About: 6}, note{To: 4, About: 6}, note{To: 5, About: 6})
	wantNotes(t, "Tell of a again", x.Tell())
	// A status that has changed back in between is not told.
	hear(t, x, note{To: 4, About: 6, Status: p}, note{To: 5, About: 6, Status: r}, note{To: 4, About: 6, Status: a})
	wantNotes(t, "Tell of nothing", x.Tell())
}

// TestTellOrder checks the order of the notes, and that a neighbor is not told about itself. (P15.5)
func TestTellOrder(t *testing.T) {
	x := newTable(t, full(4), 3)
	ok(t, x.Down(2))
	ok(t, x.Down(1))
	wantNotes(t, "Tell", x.Tell(), note{To: 4, About: 1, Status: p}, note{To: 4, About: 2, Status: p})
	ok(t, x.Up(2))
	// 1 is reached by way of 2 now, and not by itself.
	wantNotes(t, "Tell after Up(2)", x.Tell(), note{To: 2, About: 1, Status: r}, note{To: 4, About: 1, Status: r}, note{To: 4, About: 2})
	hear(t, x, note{To: 2, About: 1, Status: p}, note{To: 2, About: 4, Status: p})
	ok(t, x.Down(4))
	ok(t, x.Up(1))
	hear(t, x, note{To: 1, About: 4, Status: r})
	wantNotes(t, "Tell after Down(4)", x.Tell(), note{To: 1, About: 4, Status: r}, note{To: 2, About: 1}, note{To: 2, About: 4, Status: r})
}

// TestTellOfEnd checks that a place that does not transfer tells nothing. (P15.5)
func TestTellOfEnd(t *testing.T) {
	for _, at := range []api.Point{1, 4} {
		x := newTable(t, example(), at)
		hear(t, x, note{To: 2, About: 5 - at, Status: p}, note{To: 3, About: 5 - at, Status: p})
		wantStatus(t, x, 5-at, p)
		wantNotes(t, "Tell", x.Tell())
		wantGreet(t, x, 2)
		ok(t, x.Down(3))
		wantNotes(t, "Tell", x.Tell())
		wantGreet(t, x, 3)
		wantNotes(t, "Ask", x.Ask(), note{To: 2, About: 5 - at, Status: p})
	}
}

// TestTellDown checks that nothing is told to a neighbor that is not up, until it is. (P15.5)
func TestTellDown(t *testing.T) {
	x := newTable(t, ladder(), 4)
	ok(t, x.Down(5))
	ok(t, x.Down(6))
	wantNotes(t, "Tell", x.Tell(), note{To: 2, About: 5, Status: r}, note{To: 2, About: 6, Status: p}, note{To: 3, About: 5, Status: r}, note{To: 3, About: 6, Status: p})
	ok(t, x.Up(5))
	wantNotes(t, "Tell after Up", x.Tell(), note{To: 2, About: 5}, note{To: 3, About: 5}, note{To: 5, About: 6, Status: p})
	ok(t, x.Down(5))
	ok(t, x.Up(5))
	wantNotes(t, "Tell after Down and Up", x.Tell(), note{To: 5, About: 6, Status: p})
}

// TestGreet checks what is told to a neighbor that is not up yet, and to one that is. (P15.5)
func TestGreet(t *testing.T) {
	x := newTable(t, ladder(), 4)
	ok(t, x.Down(6))
	ok(t, x.Down(5))
	wantGreet(t, x, 5, note{To: 5, About: 6, Status: p})
	wantGreet(t, x, 5)
	ok(t, x.Up(5))
	wantNotes(t, "Tell", x.Tell(), note{To: 2, About: 6, Status: p}, note{To: 3, About: 6, Status: p})
	wantGreet(t, x, 2)
	hear(t, x, note{To: 2, About: 1, Status: r}, note{To: 3, About: 1, Status: r})
	wantGreet(t, x, 2, note{To: 2, About: 1, Status: r})
	wantNotes(t, "Tell after Greet", x.Tell(), note{To: 3, About: 1, Status: r}, note{To: 5, About: 1, Status: r})
	ok(t, x.Up(6))
	wantNotes(t, "Tell after Up", x.Tell(), note{To: 2, About: 6}, note{To: 3, About: 6}, note{To: 5, About: 6}, note{To: 6, About: 1, Status: r})
	// A greeting tells also that a destination is Allowed again.
	hear(t, x, note{To: 2, About: 1})
	wantGreet(t, x, 6, note{To: 6, About: 1})
	wantNotes(t, "Tell after the last Greet", x.Tell(), note{To: 2, About: 1}, note{To: 3, About: 1}, note{To: 5, About: 1})
}

// TestGreetOrder checks the order of several notes of a greeting. (P15.5)
func TestGreetOrder(t *testing.T) {
	x := newTable(t, full(5), 3)
	for _, n := range []api.Point{5, 4, 2, 1} {
		ok(t, x.Down(n))
	}
	for n := range api.Point(6) {
		if n == 0 || n == 3 {
			continue
		}
		var want []note
		for about := range api.Point(6) {
			if about != 0 && about != 3 && about != n {
				want = append(want, note{To: n, About: about, Status: p})
			}
		}
		wantGreet(t, x, n, want...)
	}
}

// TestGreetPresent checks that the statuses of a greeting are those of the table, in which the neighbor need not be up. (P15.5)
func TestGreetPresent(t *testing.T) {
	x := newTable(t, chain(4), 2)
	ok(t, x.Down(3))
	wantStatus(t, x, 4, p)
	wantGreet(t, x, 3, note{To: 3, About: 4, Status: p})
	wantStatus(t, x, 3, p)
	ok(t, x.Up(3))
	wantNotes(t, "Tell", x.Tell(), note{To: 3, About: 4})
}

// TestAsk checks what is asked, at all places alike. (P15.6)
func TestAsk(t *testing.T) {
	x := newTable(t, ladder(), 1)
	hear(t, x, note{To: 3, About: 6, Status: p}, note{To: 3, About: 2, Status: r}, note{To: 2, About: 5, Status: r}, note{To: 2, About: 4, Status: p}, note{To: 2, About: 6})
	want := []note{{To: 2, About: 4, Status: p}, {To: 2, About: 5, Status: r}, {To: 3, About: 2, Status: r}, {To: 3, About: 6, Status: p}}
	wantNotes(t, "Ask", x.Ask(), want...)
	wantNotes(t, "Ask again", x.Ask(), want...)
	ok(t, x.Down(3))
	wantNotes(t, "Ask after Down", x.Ask(), want[:2]...)
	// What a neighbor tells that is not up is asked when it is up.
	hear(t, x, note{To: 3, About: 4, Status: r})
	wantNotes(t, "Ask before Up", x.Ask(), want[:2]...)
	ok(t, x.Up(3))
	wantNotes(t, "Ask after Up", x.Ask(), want[0], want[1], note{To: 3, About: 4, Status: r})
}

// TestAnswer checks the answers to all beliefs about all statuses. (P15.6)
func TestAnswer(t *testing.T) {
	for s := range p + 1 {
		for belief := range 256 {
			x := newTable(t, chain(4), 2)
			hear(t, x, note{To: 3, About: 4, Status: s})
			wantStatus(t, x, 4, s)
			want, is := note{To: 1, About: 4, Status: s}, s != api.Status(belief)
			if !is {
				want = note{}
			}
			if n, got := x.Answer(note{To: 1, About: 4, Status: api.Status(belief)}); n != want || got != is {
				t.Errorf("Answer for the belief %d at the status %d is %v, %t", belief, s, n, got)
			}
			// An answer counts as said, its absence does not.
			told := []note{{To: 1, About: 4, Status: s}, {To: 3, About: 4, Status: s}}
			switch {
			case s == a:
				told = nil
			case is:
				told = told[1:]
			}
			wantNotes(t, "Tell", x.Tell(), told...)
		}
	}
}

// TestAnswerAllowed checks that an answer that a destination is Allowed counts as said. (P15.6)
func TestAnswerAllowed(t *testing.T) {
	x := newTable(t, chain(4), 2)
	hear(t, x, note{To: 3, About: 4, Status: p})
	wantNotes(t, "Tell", x.Tell(), note{To: 1, About: 4, Status: p}, note{To: 3, About: 4, Status: p})
	hear(t, x, note{To: 3, About: 4, Status: a})
	if n, is := x.Answer(note{To: 1, About: 4, Status: r}); n != (note{To: 1, About: 4}) || !is {
		t.Errorf("Answer is %v, %t", n, is)
	}
	wantNotes(t, "Tell after Answer", x.Tell(), note{To: 3, About: 4})
	// An answer that the neighbor does not get is given again.
	if n, is := x.Answer(note{To: 1, About: 4, Status: p}); n != (note{To: 1, About: 4}) || !is {
		t.Errorf("Answer again is %v, %t", n, is)
	}
}

// TestNoAnswer checks the questions that are not answered. (P15.6)
func TestNoAnswer(t *testing.T) {
	x, end := newTable(t, ladder(), 4), newTable(t, ladder(), 1)
	ok(t, x.Down(5))
	ok(t, end.Down(3))
	for _, q := range []struct {
		at *transfers.Table
		n  note
	}{
		{x, note{To: 5, About: 6, Status: p}},   // not up
		{x, note{To: 1, About: 6, Status: p}},   // not a neighbor
		{x, note{To: 4, About: 6, Status: p}},   // itself
		{x, note{To: 7, About: 6, Status: p}},   // not a place
		{x, note{To: 0, About: 6, Status: p}},   //
		{x, note{To: 2, About: 2, Status: p}},   // about the neighbor
		{x, note{To: 2, About: 4, Status: p}},   // about this place
		{x, note{To: 2, About: 7, Status: p}},   // not a place
		{x, note{To: 2, About: 0, Status: 255}}, //
		{x, note{To: 2, About: 5, Status: r}},   // right
		{x, note{To: 2, About: 6}},              //
		{end, note{To: 2, About: 6, Status: p}}, // does not transfer
		{end, note{To: 2, About: 3, Status: p}}, //
		{end, note{To: 2, About: 3, Status: 3}}, //
	} {
		if n, is := q.at.Answer(q.n); n != (note{}) || is {
			t.Errorf("Answer(%v) is %v, %t", q.n, n, is)
		}
	}
	wantNotes(t, "Tell", x.Tell(), note{To: 2, About: 5, Status: r}, note{To: 3, About: 5, Status: r}, note{To: 6, About: 5, Status: r})
}

// TestNewMemory checks that results share no memory with the table or with each other. (R4)
func TestNewMemory(t *testing.T) {
	x := newTable(t, ladder(), 3)
	hear(t, x, note{To: 4, About: 6, Status: r}, note{To: 5, About: 6, Status: r})
	first, _ := x.Statuses(6)
	asked, told := x.Ask(), x.Tell()
	greeted, _ := x.Greet(4)
	if cap(first) != len(first) || len(greeted) != 0 {
		t.Errorf("Statuses is %v with the capacity %d, Greet is %v", first, cap(first), greeted)
	}
	for i := range first {
		first[i] = p
	}
	clear(asked)
	clear(told)
	wantStatuses(t, x, 6, r, r, a)
	wantNotes(t, "Ask", x.Ask(), note{To: 4, About: 6, Status: r}, note{To: 5, About: 6, Status: r})
	wantNotes(t, "Tell", x.Tell())
}
