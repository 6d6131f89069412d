package plans_test

import (
	"math"
	"slices"
	"testing"

	"pointcode/api"
	"pointcode/plans"
)

// example returns the plan of the chapter's example.
func example() plans.Plan {
	p := plans.Plan{
		Places: []plans.Place{{Code: 1}, {Code: 2, Transfer: true}, {Code: 3, Transfer: true}, {Code: 4}},
		Rate:   1, Room: 4, Marks: [3]int{1, 2, 3},
	}
	for _, x := range [][2]api.Point{{1, 2}, {1, 3}, {2, 3}, {2, 4}, {3, 4}} {
		p.Lines = append(p.Lines, line(x[0], x[1], 0, 1))
	}
	return p
}

// line returns the line of a link, valid or not.
func line(a, b api.Point, code uint8, delay int) plans.Line {
	return plans.Line{Link: api.Link{A: a, B: b, Code: code}, Delay: delay}
}

// largest returns a plan with as many places and lines as there may be, and the greatest numbers.
func largest() plans.Plan {
	p := plans.Plan{Rate: 16, Room: 64, Marks: [3]int{62, 63, 64}}
	for i := range 64 {
		p.Places = append(p.Places, plans.Place{Code: api.Point(16320 + i), Transfer: true})
	}
	for a := range api.Point(64) {
		for b := a + 1; b < 64; b++ {
			if len(p.Lines) < 1024 {
				p.Lines = append(p.Lines, line(16320+a, 16320+b, 15, 64))
			}
		}
	}
	return p
}

// smallest returns a plan of one place.
func smallest() plans.Plan {
	return plans.Plan{Places: []plans.Place{{Code: 0}}, Rate: 1, Room: 3, Marks: [3]int{1, 2, 3}}
}

// clone returns an equal plan with slices of its own.
func clone(p plans.Plan) plans.Plan {
	p.Places, p.Lines = slices.Clone(p.Places), slices.Clone(p.Lines)
	return p
}

// random is a generator of numbers that is the same in every run.
type random uint32

// below returns a number below n, which is at most 65536.
func (r *random) below(n int) int {
	*r = *r*1664525 + 1013904223
	return int(*r>>16) * n >> 16
}

// codes returns n point codes that ascend.
func (r *random) codes(n int) []api.Point {
	found := map[api.Point]bool{}
	var out []api.Point
	most := []int{n, 2 * n, 16384}[r.below(3)]
	for len(out) < n {
		if code := api.Point(r.below(most)); !found[code] {
			found[code] = true
			out = append(out, code)
		}
	}
	slices.Sort(out)
	return out
}

// plan returns a valid plan of at most n places.
func (r *random) plan(n int) plans.Plan {
	var p plans.Plan
	transfers, density := r.below(5), 1+r.below(8)
	codes := r.codes(1 + r.below(n))
	for _, code := range codes {
		p.Places = append(p.Places, plans.Place{Code: code, Transfer: r.below(4) < transfers})
	}
	for i, a := range codes {
		for _, b := range codes[i+1:] {
			for code := r.below(8) * density; code < 16 && r.below(8) < density && len(p.Lines) < 1024; code += 1 + r.below(9) {
				p.Lines = append(p.Lines, line(a, b, uint8(code), 1+r.below(64)))
			}
		}
	}
	p.Rate, p.Room = 1+r.below(16), 3+r.below(62)
	p.Marks[0] = 1 + r.below(p.Room-2)
	p.Marks[1] = p.Marks[0] + 1 + r.below(p.Room-p.Marks[0]-1)
	p.Marks[2] = p.Marks[1] + 1 + r.below(p.Room-p.Marks[1])
	return p
}

// number returns the place of a link in the order of links.
func number(l api.Link) int { return int(l.A)<<24 + int(l.B)<<8 + int(l.Code) }

// errorOf returns the error of a plan, from the definition.
func errorOf(p plans.Plan) api.Errno {
	if len(p.Places) > 64 || len(p.Lines) > 1024 {
		return api.ErrLimit
	}
	is := map[api.Point]bool{}
	least := -1
	for _, x := range p.Places {
		if x.Code > 16383 || int(x.Code) <= least {
			return api.ErrArg
		}
		least = int(x.Code)
		is[x.Code] = true
	}
	if len(is) == 0 {
		return api.ErrArg
	}
	least = -1
	for _, x := range p.Lines {
		if x.Link.A >= x.Link.B || x.Link.Code > 15 || x.Delay < 1 || x.Delay > 64 || number(x.Link) <= least {
			return api.ErrArg
		}
		least = number(x.Link)
	}
	for _, x := range p.Lines {
		if !is[x.Link.A] || !is[x.Link.B] {
			return api.ErrNone
		}
	}
	if p.Rate < 1 || p.Rate > 16 || p.Room < 1 || p.Room > 64 {
		return api.ErrArg
	}
	if p.Marks[0] < 1 || p.Marks[1] <= p.Marks[0] || p.Marks[2] <= p.Marks[1] || p.Marks[2] > p.Room {
		return api.ErrArg
	}
	return api.OK
}

// P13.1

func TestConstants(t *testing.T) {
	if plans.MaxLines != 1024 || plans.MaxRate != 16 {
		t.Error(plans.MaxLines, plans.MaxRate)
	}
}

// edges are numbers around the limits of plans, and the greatest and least ones.
var edges = []int{math.MinInt, math.MinInt32, -1, 0, 1, 2, 3, 4, 15, 16, 17, 63, 64, 65, 255, 256, 257, 1 << 32, 1<<32 + 1, math.MaxInt}

func TestCheckValid(t *testing.T) {
	for i, p := range []plans.Plan{example(), largest(), smallest()} {
		if e := plans.Check(p); e != api.OK {
			t.Errorf("Check of plan %d is %d", i, e)
		}
	}
}

// breakers change the example to an invalid plan, each with the error that it has then; the errors are in their order of precedence.
var breakers = []struct {
	name string
	want api.Errno
	do   func(p *plans.Plan)
}{
	{"65 places", api.ErrLimit, func(p *plans.Plan) {
		for len(p.Places) < 65 {
			p.Places = append(p.Places, plans.Place{Code: api.Point(100 + len(p.Places))})
		}
	}},
	{"1025 lines", api.ErrLimit, func(p *plans.Plan) {
		for len(p.Lines) < 1025 {
			p.Lines = append(p.Lines, line(4, api.Point(5+len(p.Lines)), 0, 1))
		}
	}},
	{"code above MaxPoint", api.ErrArg, func(p *plans.Plan) { p.Places[len(p.Places)-1].Code = 16384 }},
	{"equal codes", api.ErrArg, func(p *plans.Plan) { p.Places[1].Code = p.Places[0].Code }},
	{"descending codes", api.ErrArg, func(p *plans.Plan) { p.Places[0].Code = 9 }},
	{"equal ends", api.ErrArg, func(p *plans.Plan) { p.Lines[3].Link.B = 2 }},
	{"exchanged ends", api.ErrArg, func(p *plans.Plan) { p.Lines[1].Link = api.Link{A: 3, B: 1} }},
	{"code above 15", api.ErrArg, func(p *plans.Plan) { p.Lines[2].Link.Code = 16 }},
	{"delay 0", api.ErrArg, func(p *plans.Plan) { p.Lines[1].Delay = 0 }},
	{"delay 65", api.ErrArg, func(p *plans.Plan) { p.Lines[3].Delay = 65 }},
	{"equal links", api.ErrArg, func(p *plans.Plan) { p.Lines[3] = p.Lines[2] }},
	{"descending links", api.ErrArg, func(p *plans.Plan) { p.Lines[2].Link.B, p.Lines[3].Link.B = 4, 3 }},
	{"no place at A", api.ErrNone, func(p *plans.Plan) { p.Lines[0].Link.A = 0 }},
	{"no place at B", api.ErrNone, func(p *plans.Plan) { p.Lines[len(p.Lines)-1].Link.B = 16383 }},
	{"rate 0", api.ErrArg, func(p *plans.Plan) { p.Rate = 0 }},
	{"room 65", api.ErrArg, func(p *plans.Plan) { p.Room = 65 }},
	{"mark 0", api.ErrArg, func(p *plans.Plan) { p.Marks[0] = 0 }},
	{"mark above room", api.ErrArg, func(p *plans.Plan) { p.Marks[2] = 5 }},
}

func TestCheckErrors(t *testing.T) {
	for _, x := range breakers {
		p := example()
		x.do(&p)
		if e := plans.Check(p); e != x.want {
			t.Errorf("Check with %s is %d, not %d", x.name, e, x.want)
		}
	}
}

// TestCheckPrecedence breaks the example twice, in both orders.
func TestCheckPrecedence(t *testing.T) {
	for i, x := range breakers {
		for j, y := range breakers {
			p := example()
			x.do(&p)
			y.do(&p)
			want := breakers[min(i, j)].want
			if e := plans.Check(p); e != want || errorOf(p) != want {
				t.Errorf("Check with %s, %s is %d, not %d", x.name, y.name, e, want)
			}
		}
	}
}

func TestCheckPlaces(t *testing.T) {
	for _, x := range []struct {
		codes []api.Point
		want  api.Errno
	}{
		{nil, api.ErrArg},
		{[]api.Point{}, api.ErrArg},
		{[]api.Point{0}, api.OK},
		{[]api.Point{16383}, api.OK},
		{[]api.Point{16384}, api.ErrArg},
		{[]api.Point{65535}, api.ErrArg},
		{[]api.Point{0, 16383}, api.OK},
		{[]api.Point{0, 16384}, api.ErrArg},
		{[]api.Point{16384, 16385}, api.ErrArg},
		{[]api.Point{0, 0}, api.ErrArg},
		{[]api.Point{1, 0}, api.ErrArg},
		{[]api.Point{1, 2, 2}, api.ErrArg},
		{[]api.Point{1, 3, 2}, api.ErrArg},
		{[]api.Point{1, 2, 3}, api.OK},
	} {
		p := smallest()
		p.Places = []plans.Place{}
		for _, code := range x.codes {
			p.Places = append(p.Places, plans.Place{Code: code, Transfer: true})
		}
		if e := plans.Check(p); e != x.want {
			t.Errorf("Check of places %d is %d, not %d", x.codes, e, x.want)
		}
	}
	p := smallest()
	p.Places = nil
	if e := plans.Check(p); e != api.ErrArg {
		t.Errorf("Check of nil places is %d", e)
	}
}

// TestCheckLines gives the plan of the places 0 to 3 and 16383 every list of up to two lines of some links.
func TestCheckLines(t *testing.T) {
	p := smallest()
	p.Places = nil
	for _, code := range []api.Point{0, 1, 2, 3, 16383} {
		p.Places = append(p.Places, plans.Place{Code: code})
	}
	var lines []plans.Line
	for _, a := range []api.Point{0, 1, 2, 4, 16383, 16384} {
		for _, b := range []api.Point{0, 1, 2, 3, 5, 16383, 16384, 65535} {
			for _, code := range []uint8{0, 1, 15, 16, 255} {
				lines = append(lines, line(a, b, code, 1))
			}
		}
	}
	for _, x := range lines {
		p.Lines = []plans.Line{x}
		if e, want := plans.Check(p), errorOf(p); e != want {
			t.Fatalf("Check of %v is %d, not %d", p.Lines, e, want)
		}
		for _, y := range lines {
			p.Lines = []plans.Line{x, y}
			if e, want := plans.Check(p), errorOf(p); e != want {
				t.Fatalf("Check of %v is %d, not %d", p.Lines, e, want)
			}
		}
	}
}

// TestCheckNumbers gives the example every pair of edges as rate and delay, and as room and last mark.
func TestCheckNumbers(t *testing.T) {
	for _, m := range edges {
		for _, n := range edges {
			p := example()
			p.Rate, p.Lines[2].Delay = m, n
			if e, want := plans.Check(p), errorOf(p); e != want {
				t.Errorf("Check with rate %d, delay %d is %d, not %d", m, n, e, want)
			}
			p = example()
			p.Room, p.Marks[2] = m, n
			if e, want := plans.Check(p), errorOf(p); e != want {
				t.Errorf("Check with room %d, mark %d is %d, not %d", m, n, e, want)
			}
		}
	}
	for n := -2; n < 70; n++ {
		p := example()
		p.Rate = n
		if e := plans.Check(p); (e == api.OK) != (n >= 1 && n <= 16) {
			t.Errorf("Check with rate %d is %d", n, e)
		}
		p = example()
		p.Lines[4].Delay = n
		if e := plans.Check(p); (e == api.OK) != (n >= 1 && n <= 64) {
			t.Errorf("Check with delay %d is %d", n, e)
		}
		p = example()
		p.Room = n
		if e := plans.Check(p); (e == api.OK) != (n >= 3 && n <= 64) {
			t.Errorf("Check with room %d is %d", n, e)
		}
	}
}

func TestCheckMarks(t *testing.T) {
	values := append([]int{math.MinInt, math.MaxInt - 1, math.MaxInt}, -1, 0, 1, 2, 3, 4, 5, 6)
	for _, a := range values {
		for _, b := range values {
			for _, c := range values {
				p := example()
				p.Marks = [3]int{a, b, c}
				want := api.ErrArg
				if 1 <= a && a < b && b < c && c <= 4 {
					want = api.OK
				}
				if e := plans.Check(p); e != want {
					t.Errorf("Check with marks %d is %d, not %d", p.Marks, e, want)
				}
			}
		}
	}
}

// TestCheckOrder has a line without a place in front of one that is not valid: the error of the latter is named first.
func TestCheckOrder(t *testing.T) {
	p := example()
	p.Lines[0].Link.A, p.Lines[4].Delay = 0, 0
	if e := plans.Check(p); e != api.ErrArg {
		t.Errorf("Check is %d", e)
	}
}

// TestCheckOfChanged changes a few fields of valid plans.
func TestCheckOfChanged(t *testing.T) {
	var r random
	points := []api.Point{0, 1, 2, 16383, 16384, 65535}
	for range 20000 {
		p := r.plan(8)
		for range 1 + r.below(2) {
			i, edge := r.below(len(p.Places)), edges[r.below(len(edges))]
			if l := len(p.Lines); l > 0 && r.below(3) > 0 {
				x, y := &p.Lines[r.below(l)], p.Lines[r.below(l)]
				*[]*api.Point{&x.Link.A, &x.Link.B}[r.below(2)] = []api.Point{y.Link.A, y.Link.B, points[r.below(6)]}[r.below(3)]
				if r.below(4) == 0 {
					x.Link.Code, x.Delay = uint8(r.below(20)), []int{x.Delay, edge}[r.below(2)]
				}
				continue
			}
			switch r.below(4) {
			case 0:
				p.Places[i].Code = points[r.below(6)]
			case 1:
				p.Rate = edge
			case 2:
				p.Room = edge
			default:
				p.Marks[r.below(3)] = edge
			}
		}
		if e, want := plans.Check(p), errorOf(p); e != want {
			t.Fatalf("Check of %v is %d, not %d", p, e, want)
		}
	}
}

// call is the call of a function that checks a plan; it tells whether the result is that of an error.
type call struct {
	name   string
	points int // how many it is given
	do     func(p plans.Plan, at, to api.Point) (isNone bool, e api.Errno)
}

// calls are those of all functions that check a plan.
var calls = []call{
	{"Neighbors", 1, func(p plans.Plan, at, to api.Point) (bool, api.Errno) {
		l, e := plans.Neighbors(p, at)
		return len(l) == 0, e
	}},
	{"Links", 2, func(p plans.Plan, at, to api.Point) (bool, api.Errno) {
		l, e := plans.Links(p, at, to)
		return len(l) == 0, e
	}},
	{"Distances", 1, func(p plans.Plan, at, to api.Point) (bool, api.Errno) {
		l, e := plans.Distances(p, at)
		return len(l) == 0, e
	}},
	{"Heights", 1, func(p plans.Plan, at, to api.Point) (bool, api.Errno) {
		l, e := plans.Heights(p, at)
		return len(l) == 0, e
	}},
	{"Choices", 2, func(p plans.Plan, at, to api.Point) (bool, api.Errno) {
		l, e := plans.Choices(p, at, to)
		return len(l) == 0, e
	}},
	{"Base", 0, func(p plans.Plan, at, to api.Point) (bool, api.Errno) {
		n, e := plans.Base(p)
		return n == 0, e
	}},
	{"Hold", 2, func(p plans.Plan, at, to api.Point) (bool, api.Errno) {
		n, e := plans.Hold(p, at, to)
		return n == 0, e
	}},
	{"Gap", 0, func(p plans.Plan, at, to api.Point) (bool, api.Errno) {
		n, e := plans.Gap(p)
		return n == 0, e
	}},
	{"Write", 0, func(p plans.Plan, at, to api.Point) (bool, api.Errno) {
		s, e := plans.Write(p)
		return s == "", e
	}},
}

// TestFirstErrors gives all functions invalid plans, with points that are places and others.
func TestFirstErrors(t *testing.T) {
	for _, x := range breakers {
		p := example()
		x.do(&p)
		for _, c := range calls {
			for _, at := range []api.Point{1, 4, 77, 65535} {
				for _, to := range []api.Point{1, 4, 77, 65535} {
					if zero, e := c.do(p, at, to); !zero || e != x.want {
						t.Errorf("%s with %s at %d, %d: %v, %d, not %d", c.name, x.name, at, to, zero, e, x.want)
					}
				}
			}
		}
	}
	for _, c := range calls {
		if zero, e := c.do(plans.Plan{}, 0, 0); !zero || e != api.ErrArg {
			t.Errorf("%s of the zero Plan: %v, %d", c.name, zero, e)
		}
	}
}

// TestNoPlaces gives all functions points that are not places.
func TestNoPlaces(t *testing.T) {
	for _, c := range calls {
		for _, none := range []api.Point{0, 5, 16383, 16384, 65535} {
			if c.points > 0 {
				for _, to := range []api.Point{1, 3, none} {
					if zero, e := c.do(example(), none, to); !zero || e != api.ErrNone {
						t.Errorf("%s at %d, %d: %v, %d", c.name, none, to, zero, e)
					}
				}
			}
			if zero, e := c.do(example(), 1, none); c.points > 1 && (!zero || e != api.ErrNone) {
				t.Errorf("%s at 1, %d: %v, %d", c.name, none, zero, e)
			}
		}
	}
}

// P13.2 (Index)

func TestIndex(t *testing.T) {
	p := plans.Plan{Places: []plans.Place{{Code: 9}, {Code: 7, Transfer: true}, {Code: 9, Transfer: true}, {Code: 65535}, {Code: 0}}}
	for _, x := range []struct {
		code  api.Point
		index int
		is    bool
	}{{9, 0, true}, {7, 1, true}, {65535, 3, true}, {0, 4, true}, {8, 0, false}, {16384, 0, false}} {
		if i, is := plans.Index(p, x.code); i != x.index || is != x.is {
			t.Errorf("Index(%d) is %d, %v", x.code, i, is)
		}
	}
	for _, p := range []plans.Plan{{}, {Places: []plans.Place{}}} {
		if i, is := plans.Index(p, 0); i != 0 || is {
			t.Errorf("Index in no plan is %d, %v", i, is)
		}
	}
	large := largest()
	for code := range 65536 {
		i, is := plans.Index(large, api.Point(code))
		if want := code >= 16320 && code < 16384; is != want || want && i != code-16320 || !want && i != 0 {
			t.Fatalf("Index(%d) is %d, %v", code, i, is)
		}
	}
	many := plans.Plan{Places: make([]plans.Place, 5000)}
	many.Places[4999].Code = 3
	if i, is := plans.Index(many, 3); i != 4999 || !is {
		t.Errorf("Index of the last place is %d, %v", i, is)
	}
}

// P13.6 (Same)

func TestSame(t *testing.T) {
	for i, f := range []func(p *plans.Plan){
		func(p *plans.Plan) { p.Places[0].Code++ },
		func(p *plans.Plan) { p.Places[3].Transfer = true },
		func(p *plans.Plan) { p.Places[2].Transfer = false },
		func(p *plans.Plan) { p.Places = p.Places[:3] },
		func(p *plans.Plan) { p.Places = p.Places[1:] },
		func(p *plans.Plan) { p.Places = nil },
		func(p *plans.Plan) { p.Places = append(p.Places, plans.Place{}) },
		func(p *plans.Plan) { p.Places[0], p.Places[1] = p.Places[1], p.Places[0] },
		func(p *plans.Plan) { p.Lines[4].Link.A++ },
		func(p *plans.Plan) { p.Lines[0].Link.B++ },
		func(p *plans.Plan) { p.Lines[1].Link.Code++ },
		func(p *plans.Plan) { p.Lines[4].Delay++ },
		func(p *plans.Plan) { p.Lines = p.Lines[:4] },
		func(p *plans.Plan) { p.Lines = []plans.Line{} },
		func(p *plans.Plan) { p.Lines = append(p.Lines, plans.Line{}) },
		func(p *plans.Plan) { p.Lines[1], p.Lines[2] = p.Lines[2], p.Lines[1] },
		func(p *plans.Plan) { p.Rate = math.MinInt },
		func(p *plans.Plan) { p.Room += 1 << 32 },
		func(p *plans.Plan) { p.Marks[0] = 0 },
		func(p *plans.Plan) { p.Marks[1]-- },
		func(p *plans.Plan) { p.Marks[2] = math.MaxInt },
	} {
		p, q := example(), example()
		if !plans.Same(p, q) {
			t.Fatal("the example is not the same as itself")
		}
		f(&q)
		if plans.Same(p, q) || plans.Same(q, p) {
			t.Errorf("change %d is not noticed", i)
		}
		f(&p)
		if !plans.Same(p, q) {
			t.Errorf("change %d of both is a difference", i)
		}
	}
}

func TestSameEmpty(t *testing.T) {
	var l []plans.Plan
	for _, places := range [][]plans.Place{nil, {}, make([]plans.Place, 0, 9)} {
		for _, lines := range [][]plans.Line{nil, {}, make([]plans.Line, 0, 9)} {
			l = append(l, plans.Plan{Places: places, Lines: lines})
		}
	}
	for i, a := range l {
		for j, b := range l {
			if !plans.Same(a, b) {
				t.Errorf("Same of the empty plans %d, %d", i, j)
			}
			b.Rate = 1
			if plans.Same(a, b) {
				t.Errorf("Same of the empty plans %d, %d with different rates", i, j)
			}
		}
	}
}

// TestSameOfInvalid compares plans that Check refuses.
func TestSameOfInvalid(t *testing.T) {
	p := plans.Plan{Places: make([]plans.Place, 2000), Lines: make([]plans.Line, 3000), Rate: -1}
	q := clone(p)
	if !plans.Same(p, q) {
		t.Error("equal plans")
	}
	q.Lines[2999].Delay = -1
	if plans.Same(p, q) {
		t.Error("plans whose last lines differ")
	}
	q = clone(p)
	q.Places[1999].Transfer = true
	if plans.Same(p, q) {
		t.Error("plans whose last places differ")
	}
}

// R1

// spare returns an equal plan whose slices have elements beyond their ends.
func spare(p plans.Plan) plans.Plan {
	places, lines := len(p.Places), len(p.Lines)
	p.Places = append(slices.Clone(p.Places), plans.Place{Code: 77}, plans.Place{Code: 78})[:places]
	p.Lines = append(slices.Clone(p.Lines), line(77, 78, 9, 9), line(78, 79, 8, 8))[:lines]
	return p
}

// TestArguments checks that no function changes a plan, also behind the ends of its slices.
func TestArguments(t *testing.T) {
	var r random
	for range 50 {
		original := r.plan(9)
		p := spare(original)
		for _, at := range p.Places {
			for _, to := range p.Places {
				for _, c := range calls {
					c.do(p, at.Code, to.Code)
				}
				plans.Index(p, at.Code)
			}
		}
		plans.Check(p)
		plans.Same(p, p)
		places, lines := len(p.Places), len(p.Lines)
		p.Places, p.Lines = p.Places[:places+2], p.Lines[:lines+2]
		changed := p.Places[places].Code != 77 || p.Places[places+1].Code != 78 || p.Lines[lines] != line(77, 78, 9, 9) || p.Lines[lines+1] != line(78, 79, 8, 8)
		if !slices.Equal(p.Places[:places], original.Places) || !slices.Equal(p.Lines[:lines], original.Lines) || changed {
			t.Fatalf("%v has become %v", original, p)
		}
	}
}
