package plans_test

import (
	"testing"

	"pointcode/api"
	"pointcode/plans"
)

// P13.5

func TestExampleTimes(t *testing.T) {
	base, e := plans.Base(example())
	gap, f := plans.Gap(example())
	if base != 96 || e != api.OK || gap != 576 || f != api.OK {
		t.Errorf("Base and Gap are %d, %d and %d, %d", base, e, gap, f)
	}
	for at, want := range []int{1: 384, 2: 192, 3: 288, 4: 96} {
		if n, e := plans.Hold(example(), api.Point(at), 4); at > 0 && (n != want || e != api.OK) {
			t.Errorf("Hold(%d, 4) is %d, %d, not %d", at, n, e, want)
		}
	}
}

func TestBase(t *testing.T) {
	slow := example()
	for i, delay := range []int{3, 9, 17, 2, 16} {
		slow.Lines[i].Delay = delay
	}
	none := example()
	none.Lines = nil
	first, last := example(), example()
	first.Lines[0].Delay, last.Lines[4].Delay = 64, 64
	for i, x := range []struct {
		p    plans.Plan
		base int
	}{
		{smallest(), 4 * 1 * (0 + 3 + 1)},
		{none, 4 * 4 * (0 + 4 + 1)},
		{slow, 4 * 4 * (17 + 4 + 1)},
		{first, 4 * 4 * (64 + 4 + 1)},
		{last, 4 * 4 * (64 + 4 + 1)},
		{largest(), 4 * 64 * (64 + 64 + 1)},
		{chain(7), 4 * 7 * (1 + 3 + 1)},
	} {
		if n, e := plans.Base(x.p); n != x.base || e != api.OK {
			t.Errorf("Base of plan %d is %d, %d, not %d", i, n, e, x.base)
		}
		if n, e := plans.Gap(x.p); n != (len(x.p.Places)+2)*x.base || e != api.OK {
			t.Errorf("Gap of plan %d is %d, %d", i, n, e)
		}
	}
}

func TestHoldErrors(t *testing.T) {
	p := example()
	p.Lines = []plans.Line{line(1, 2, 0, 1), line(1, 4, 0, 1)}
	for _, x := range []struct {
		at, to api.Point
		want   api.Errno
	}{{2, 4, api.ErrRoute}, {3, 4, api.ErrRoute}, {4, 3, api.ErrRoute}, {5, 4, api.ErrNone}, {4, 5, api.ErrNone}, {5, 5, api.ErrNone}} {
		if n, e := plans.Hold(p, x.at, x.to); n != 0 || e != x.want {
			t.Errorf("Hold(%d, %d) is %d, %d, not %d", x.at, x.to, n, e, x.want)
		}
	}
	if n, e := plans.Hold(p, 3, 3); n != 4*4*6 || e != api.OK {
		t.Errorf("Hold at a lone destination is %d, %d", n, e)
	}
	if n, e := plans.Hold(smallest(), 0, 0); n != 16 || e != api.OK {
		t.Errorf("Hold at the only place is %d, %d", n, e)
	}
}

// TestTimesOfMany compares the times of plans with those from the definitions.
func TestTimesOfMany(t *testing.T) {
	var r random
	all := []plans.Plan{largest(), chain(64), star(64)}
	for k := range 60 {
		all = append(all, r.plan([]int{3, 8, 20, 40}[k%4]))
	}
	for _, p := range all {
		n, delay := len(p.Places), 0
		for _, x := range p.Lines {
			if x.Delay > delay {
				delay = x.Delay
			}
		}
		want := 4 * n * (delay + p.Room + 1)
		base, e := plans.Base(p)
		gap, f := plans.Gap(p)
		if base != want || e != api.OK || gap != (n+2)*want || f != api.OK {
			t.Fatalf("Base and Gap of %v are %d, %d and %d, %d", p, base, e, gap, f)
		}
		near := table(p)
		for to, y := range p.Places {
			heights := heightsFrom(relaxed(p, near, to))
			for at, x := range p.Places {
				hold, err := (heights[at]+1)*want, api.OK
				if heights[at] < 0 {
					hold, err = 0, api.ErrRoute
				}
				if n, e := plans.Hold(p, x.Code, y.Code); n != hold || e != err {
					t.Fatalf("Hold(%v, %d, %d) is %d, %d, not %d, %d", p, x.Code, y.Code, n, e, hold, err)
				}
			}
		}
	}
}
