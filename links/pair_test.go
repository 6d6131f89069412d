package links_test

import (
	"bytes"
	"slices"
	"strings"
	"testing"

	"pointcode/api"
	"pointcode/lines"
	"pointcode/links"
)

// P11.6

// sequence follows the loads of both ends of a link.
type sequence struct {
	link        *links.Link
	sent, taken [2][][]byte // by the end that sent them, by the one that took them
}

// do performs an act, which is the one with a number.
func (q *sequence) do(act byte, number int) api.Errno {
	e, loads := do(q.link, act, number)
	switch k := ownerOf(act); {
	case e != api.OK:
	case act == 't' || act == 'T':
		q.taken[k] = append(q.taken[k], loads...)
	case act == 'l' || act == 'L':
		q.sent[k] = append(q.sent[k], load(number))
	case act == 'm' || act == 'M':
		q.sent[k] = append(q.sent[k], long(number))
	}
	return e
}

// ownerOf returns the end of an act that is not a tick.
func ownerOf(act byte) int {
	if 'A' <= act && act <= 'Z' {
		return 1
	}
	return 0
}

// holds checks that what each end has taken is the beginning of what the other one was given, and that this one retrieves the rest.
func (q *sequence) holds(t *testing.T, o links.Options, text string) {
	t.Helper()
	q.do('t', 0)
	q.do('T', 0)
	for k := range 2 {
		rest, e := q.link.Retrieve(1-k, q.link.Last(k))
		all := append(slices.Clip(q.taken[k]), rest...)
		if e != api.OK || !slices.EqualFunc(all, q.sent[1-k], bytes.Equal) {
			t.Fatalf("%+v: %s: end %d has taken %d of %d loads, the other one retrieves %d, %d", o, text, k, len(q.taken[k]), len(q.sent[1-k]), len(rest), e)
		}
	}
}

// TestSequence loses and doubles bursts, and starts each end once.
func TestSequence(t *testing.T) {
	var r random = 7
	taken := 0
	for range 1500 {
		o := r.options()
		if r.below(2) == 0 {
			o = links.Usual(o.Delay)
			o.Cyclic = r.below(2) == 0
		}
		for k := range o.Noise {
			o.Noise[k] = r.noise(2+r.below(40), lines.Drop, lines.Twice)
		}
		q := sequence{link: made(t, o)}
		text := []string{"aA", "eA", "A...a", "a.....E"}[r.below(4)] + ticks(r.below(40))
		all := []string{"lLmM", "lLmMcdopCDOP", "lLmMcdopCDOPsS"}[r.below(3)]
		all += ticks(len(all) * 3 / 2)
		for range 200 {
			n := r.below(len(all))
			text += all[n : n+1]
		}
		started := 0
		for i := range len(text) {
			q.do(text[i], i)
			if strings.IndexByte("aAeE", text[i]) >= 0 {
				started++
			}
			if started == 2 {
				q.holds(t, o, text[:i+1])
			}
		}
		taken += len(q.taken[0]) + len(q.taken[1])
	}
	if taken < 10000 {
		t.Errorf("only %d loads in all", taken)
	}
}

// served lets both ends be started, the second one some ticks after the first one, and checks that they come to the state Service and that all loads are taken from then on.
type served struct {
	delay, later, first int
	emergency           [2]bool
}

// holds performs it.
func (s served) holds(t *testing.T) {
	t.Helper()
	o := links.Usual(s.delay)
	q := sequence{link: made(t, o)}
	x := q.link
	x.Start(s.first, s.emergency[0])
	perform(t, x, ticks(s.later))
	if e := x.Start(1-s.first, s.emergency[1]); e != api.OK {
		t.Fatalf("%+v: Start: %d", s, e)
	}
	for n := 0; x.State(0) != links.Service || x.State(1) != links.Service; n++ {
		if n == 10*s.delay+100 {
			t.Fatalf("%+v: %d and %d", s, x.State(0), x.State(1))
		}
		perform(t, x, ".")
	}
	// in most ticks one end or the other is given a load, for a while also both
	for n := range 4*s.delay + 90 {
		for k, act := range []byte{'l', 'L'} {
			if n%(k+2) == 0 || n > 40 && n < 90 {
				if e := q.do(act, n); e != api.OK && e != api.ErrFull {
					t.Fatalf("%+v: %c returns %d", s, act, e)
				}
			}
		}
		perform(t, x, ".")
	}
	perform(t, x, ticks(2*s.delay+70))
	are(t, x, "SS")
	q.holds(t, o, "")
	for k := range 2 {
		if len(q.taken[k]) != len(q.sent[1-k]) {
			t.Fatalf("%+v: end %d has taken %d of %d loads", s, k, len(q.taken[k]), len(q.sent[1-k]))
		}
	}
}

// TestServed starts the second end fewer than 5d + 60 ticks after the first one.
func TestServed(t *testing.T) {
	for _, d := range []int{1, 2, 3, 7, 20, 64} {
		last := 5*d + 59
		later := []int{0, 1, d - 1, d, d + 1, 2 * d, 3*d + 5, last / 2, last - 1, last}
		if d == 2 {
			later = from(0, last+1)
		}
		for _, n := range later {
			for i := range 8 {
				served{d, n, i % 2, [2]bool{i&2 != 0, i&4 != 0}}.holds(t)
			}
		}
	}
}

// TestStoppedLinks stops an end whose other one is Ready or in the state Service.
func TestStoppedLinks(t *testing.T) {
	var r random = 11
	stopped := map[links.State]int{}
	for range 3000 {
		o := r.options()
		o.Noise = [2][]lines.Noise{}
		if r.below(2) == 0 {
			o = links.Usual(o.Delay)
		}
		x := made(t, o)
		text := []string{"aA", "eA", "A...a", "a..E"}[r.below(4)] + r.text(5+r.below(60), "aAeE"+ticks(20)) + "aA" + ticks(r.below(30))
		for i := range len(text) {
			do(x, text[i], i)
		}
		k := r.below(2)
		state := x.State(1 - k)
		if state != links.Ready && state != links.Service || x.Stop(k) != api.OK {
			continue
		}
		stopped[state]++
		// what else happens, of which nothing starts the other end
		more := []string{"alcdop", "ALCDOP"}[k] + []string{"LMCDOPS", "lmcdops"}[k]
		for range o.Delay + 1 {
			for range r.below(3) {
				n := r.below(len(more))
				do(x, more[n], n)
			}
			perform(t, x, ".")
		}
		if x.State(1-k) != links.Out {
			t.Fatalf("%+v: %s: end %d is stopped, the other one was %d and is %d", o, text, k, state, x.State(1-k))
		}
	}
	if stopped[links.Ready] < 20 || stopped[links.Service] < 300 {
		t.Errorf("only %v", stopped)
	}
}

// TestStoppedDelays stops an end of links with all delays.
func TestStoppedDelays(t *testing.T) {
	for d := 1; d <= maxDelay; d++ {
		for _, n := range []int{20 + 4*d, 20 + 5*d - 1, 20 + 5*d, 20 + 6*d} {
			for _, text := range []string{"S", "SA", "SE"} {
				x := behind(t, links.Usual(d), "aA"+ticks(n)+text+ticks(d))
				if s := x.State(0); s != links.Service {
					t.Errorf("delay %d: %s: the state is %d", d, text, s)
				}
				perform(t, x, ".")
				if s := x.State(0); s != links.Out {
					t.Errorf("delay %d: %s: the state is %d", d, text, s)
				}
			}
		}
	}
}

// TestExample performs the chapter's examples.
func TestExample(t *testing.T) {
	x := behind(t, links.Usual(1), "aA"+ticks(24))
	if x.State(0) == links.Service || x.State(1) == links.Service {
		t.Error("in the state Service too early")
	}
	perform(t, x, ".")
	are(t, x, "SS")
	perform(t, x, "l.")
	if l := x.Take(1); len(l) != 0 {
		t.Errorf("%v", l)
	}
	perform(t, x, ".")
	if l := x.Take(1); len(l) != 1 || !bytes.Equal(l[0], load(0)) {
		t.Errorf("%v", l)
	}
	perform(t, x, "s")
	are(t, x, "XS")
	perform(t, x, ".")
	are(t, x, "XS")
	perform(t, x, ".")
	are(t, x, "XX")
}
