package changes_test

import (
	"math"
	"reflect"
	"testing"

	"pointcode/api"
	"pointcode/changes"
)

// random is a generator of numbers that is the same in every run.
type random uint32

// below returns a number below n, which is at most 65536.
func (rnd *random) below(n int) int {
	*rnd = *rnd*1664525 + 1013904223
	return int(*rnd>>16) * n >> 16
}

// model is an end that follows the definitions: it forgets nothing that was sent.
type model struct {
	state              changes.State
	items              []item
	isKept             []bool
	acked, last, since int
}

func (m *model) retained() []item {
	var out []item
	for i, x := range m.items {
		if m.isKept[i] {
			out = append(out, x)
		}
	}
	return out
}

func (m *model) forget(upTo int) {
	for i := range upTo {
		m.isKept[i] = false
	}
}

func (m *model) send(x item) (int, api.Errno) {
	if m.state != changes.Up {
		return 0, api.ErrState
	}
	m.items, m.isKept = append(m.items, x), append(m.isKept, true)
	return len(m.items), api.OK
}

func (m *model) arrive(number int) api.Errno {
	if m.state != changes.Up {
		return api.ErrState
	}
	if number != m.last+1 {
		return api.ErrArg
	}
	m.last++
	return api.OK
}

func (m *model) acknowledge(number int) api.Errno {
	if m.state != changes.Up {
		return api.ErrState
	}
	if number < 0 || number > len(m.items) {
		return api.ErrArg
	}
	m.acked = max(m.acked, number)
	m.forget(number)
	return api.OK
}

func (m *model) fail(now int) (int, api.Errno) {
	if m.state != changes.Up {
		return 0, api.ErrState
	}
	m.state, m.since = changes.Waiting, now
	return m.last, api.OK
}

func (m *model) told(last int) ([]item, api.Errno) {
	if m.state != changes.Waiting {
		return nil, api.ErrState
	}
	if last < m.acked || last < 0 || last > len(m.items) {
		return nil, api.ErrArg
	}
	m.state = changes.Idle
	m.forget(last)
	out := m.retained()
	m.forget(len(m.items))
	return out, api.OK
}

func (m *model) tick(now, base int) ([]item, bool) {
	if m.state != changes.Waiting || now < m.since+base {
		return nil, false
	}
	m.state = changes.Idle
	out := m.retained()
	m.forget(len(m.items))
	return out, true
}

func (m *model) restore() api.Errno {
	if m.state != changes.Idle {
		return api.ErrState
	}
	*m = model{}
	return api.OK
}

// act is one thing that is done with an end.
type act struct{ kind, number int }

// step does the same with an end and its model, and compares the results and what can be seen.
func (m *model) step(t *testing.T, x *end, a act) bool {
	t.Helper()
	var got, want [4]any
	switch a.kind {
	case 0:
		got[0], got[1] = x.Send(numbered(a.number))
		want[0], want[1] = m.send(numbered(a.number))
	case 1:
		got[0], want[0] = x.Arrive(a.number), m.arrive(a.number)
	case 2:
		got[0], want[0] = x.Acked(a.number), m.acknowledge(a.number)
	case 3:
		got[0], got[1] = x.Fail(a.number)
		want[0], want[1] = m.fail(a.number)
	case 4:
		l, e := x.Told(a.number)
		k, f := m.told(a.number)
		got, want = [4]any{l, e}, [4]any{k, f}
		if len(l) == 0 && len(k) == 0 {
			got[0], want[0] = nil, nil
		}
	case 5:
		l, is := x.Tick(a.number, 2)
		k, must := m.tick(a.number, 2)
		got, want = [4]any{l, is}, [4]any{k, must}
		if len(l) == 0 && len(k) == 0 {
			got[0], want[0] = nil, nil
		}
	default:
		got[0], want[0] = x.Restore(), m.restore()
	}
	got[2], want[2] = [3]int{int(x.State()), x.Retained(), x.Last()}, [3]int{int(m.state), len(m.retained()), m.last}
	if !reflect.DeepEqual(got, want) {
		t.Errorf("%v is %v, not %v", a, got, want)
		return false
	}
	return true
}

// TestShort does all short lists of acts with an end and its model. (P16.1 to P16.7)
func TestShort(t *testing.T) {
	acts := []act{{0, 1}, {1, 1}, {1, 2}, {2, 0}, {2, 1}, {2, 2}, {3, 5}, {4, 0}, {4, 1}, {4, 2}, {5, 6}, {5, 7}, {6, 0}}
	var list []act
	var extend func(left int)
	extend = func(left int) {
		x, m := changes.New(), &model{}
		for _, a := range list {
			if !m.step(t, x, a) {
				t.Fatalf("after %v", list)
			}
		}
		for i := 0; i < len(acts) && left > 0; i++ {
			list = append(list, acts[i])
			extend(left - 1)
			list = list[:len(list)-1]
		}
	}
	extend(5)
}

// TestLong does many acts with ends and their models. (P16.1 to P16.7)
func TestLong(t *testing.T) {
	var rnd random
	for range 300 {
		x, m := changes.New(), &model{}
		rare := 1 + rnd.below(20)
		for range 300 {
			// An end is Up for a while, and often near the numbers that matter.
			kind := []int{0, 0, 0, 1, 1, 2, 2}[rnd.below(7)]
			if m.state != changes.Up || rnd.below(5*rare) == 0 {
				kind = rnd.below(7)
			}
			near := []int{m.last + 1, m.acked, len(m.items), m.since + 2, 0, math.MaxInt, math.MinInt}[rnd.below(7)]
			number := near + rnd.below(3) - 1
			if near == math.MaxInt || near == math.MinInt {
				number = near
			}
			if kind == 0 || kind == 3 {
				number = rnd.below(1000)
			}
			if kind == 1 && rnd.below(4) > 0 {
				number = m.last + 1
			}
			if kind == 2 && rnd.below(2) > 0 {
				number = rnd.below(len(m.items) + 1)
			}
			if !m.step(t, x, act{kind, number}) {
				t.FailNow()
			}
		}
	}
}

// carry sends items from one end to the other until some have arrived and some of them are acknowledged.
func carry(t *testing.T, x, y *end, count, arrived, acked int) {
	t.Helper()
	for n := range count {
		wantNumber(t, x, numbered(n+1), n+1)
		if n < arrived {
			ok(t, y.Arrive(n+1))
		}
		if n < acked {
			ok(t, x.Acked(n+1))
		}
	}
}

// wantRest checks that Told returns what is missing behind the items that have arrived.
func wantRest(t *testing.T, x *end, last, count int) {
	t.Helper()
	wantTold(t, x, last, numbersFrom(last+1, count)...)
	wantState(t, x, changes.Idle, 0, x.Last())
}

// TestPair checks that each item arrives or is returned, in both directions, for all small numbers. (P16.8)
func TestPair(t *testing.T) {
	for count := range 7 {
		for arrived := range count + 1 {
			for acked := range arrived + 1 {
				x, y := changes.New(), changes.New()
				back := (count*3 + arrived) % 5
				for range 2 {
					carry(t, x, y, count, arrived, acked)
					carry(t, y, x, back, back/2, back/3)
					fail(t, x, 4, back/2)
					fail(t, y, 9, arrived)
					wantRest(t, x, y.Last(), count)
					wantRest(t, y, x.Last(), back)
					ok(t, x.Restore())
					ok(t, y.Restore())
				}
			}
		}
	}
}

// TestPairs checks that each item arrives or is returned, over many failures at any time. (P16.8)
func TestPairs(t *testing.T) {
	var rnd random
	x, y := changes.New(), changes.New()
	given := 0
	for range 2000 {
		var total, got []item
		inFlight, arrived := []item(nil), 0
		for range rnd.below(60) {
			switch rnd.below(3) {
			case 0:
				given++
				m := numbered(given)
				wantNumber(t, x, m, len(total)+1)
				total, inFlight = append(total, m), append(inFlight, m)
			case 1:
				if len(inFlight) > 0 {
					arrived++
					ok(t, y.Arrive(arrived))
					got, inFlight = append(got, inFlight[0]), inFlight[1:]
				}
			case 2:
				ok(t, x.Acked(rnd.below(arrived+1)))
			}
		}
		fail(t, x, given, 0)
		fail(t, y, given, arrived)
		l, e := x.Told(y.Last())
		ok(t, e)
		if got = append(got, l...); len(got) != len(total) || len(got) > 0 && !reflect.DeepEqual(got, total) {
			t.Fatalf("%v instead of %v", got, total)
		}
		if _, e := y.Told(0); e != api.OK || x.Restore() != api.OK || y.Restore() != api.OK {
			t.Fatal("the ends are not settled")
		}
	}
}
