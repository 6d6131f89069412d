package transfers

import (
	"slices"

	"pointcode/api"
)

// Tell returns what must be told to neighbors, and remembers that it was told.
func (t *Table) Tell() []Note {
	if t.isEmpty() {
		return nil
	}
	var out []Note
	for _, n := range t.neighbors {
		if t.up[n] {
			out = append(out, t.tellOne(n)...)
		}
	}
	return slices.Clip(out)
}

// Greet returns what must be told to a neighbor that is about to come up, and remembers that it was told.
func (t *Table) Greet(n api.Point) ([]Note, api.Errno) {
	if e := t.checkNeighbor(n); e != api.OK {
		return nil, e
	}
	return slices.Clip(t.tellOne(n)), api.OK
}

// tellOne returns what must be told to one neighbor, which need not be up, and remembers that it was told.
func (t *Table) tellOne(n api.Point) []Note {
	if !t.transfers {
		return nil
	}
	var out []Note
	for _, d := range t.destinations {
		note := Note{To: n, About: d, Status: t.statusOf(d)}
		if d != n && note.Status != t.said[pair{n, d}] {
			t.said.set(note)
			out = append(out, note)
		}
	}
	return out
}

// Ask returns what must be asked again.
func (t *Table) Ask() []Note {
	if t.isEmpty() {
		return nil
	}
	var out []Note
	for _, n := range t.neighbors {
		for _, d := range t.destinations {
			if told := t.told[pair{n, d}]; t.up[n] && told != api.Allowed {
				out = append(out, Note{To: n, About: d, Status: told})
			}
		}
	}
	return slices.Clip(out)
}

// Answer returns the answer to a neighbor's question, if its knowledge is wrong.
func (t *Table) Answer(n Note) (Note, bool) {
	if t.isEmpty() || !t.transfers || !t.up[n.To] || !t.isDestination(n.About) || n.About == n.To {
		return Note{}, false
	}
	answer := Note{To: n.To, About: n.About, Status: t.statusOf(n.About)}
	if answer.Status == n.Status {
		return Note{}, false
	}
	t.said.set(answer)
	return answer, true
}
