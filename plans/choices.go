package plans

import (
	"cmp"
	"slices"

	"pointcode/api"
	"pointcode/labels"
)

// noWay is the distance and the height of a place without a way.
const noWay = -1

// Choice is a place to which a message may go next.
type Choice struct {
	Next api.Point
	Rank int
}

// Neighbors returns the places that have a line with a place.
func Neighbors(p Plan, at api.Point) ([]api.Point, api.Errno) {
	if e := check(p, at); e != api.OK {
		return nil, e
	}
	return neighborsOf(p, at), api.OK
}

// neighborsOf returns the neighbors of a place of a valid plan. They ascend, as the lines are ordered by A and then by B, and a place is B before it is A.
func neighborsOf(p Plan, at api.Point) []api.Point {
	var out []api.Point
	for _, x := range p.Lines {
		if other, is := labels.Other(x.Link, at); is {
			out = append(out, other)
		}
	}
	return slices.Clip(slices.Compact(out))
}

// Links returns the links between two places.
func Links(p Plan, a, b api.Point) ([]api.Link, api.Errno) {
	if e := check(p, a, b); e != api.OK {
		return nil, e
	}
	if a == b {
		return nil, api.ErrArg
	}
	var out []api.Link
	for _, x := range p.Lines {
		if x.Link.A == min(a, b) && x.Link.B == max(a, b) {
			out = append(out, x.Link)
		}
	}
	return slices.Clip(out), api.OK
}

// Distances returns the distance of each place from a destination.
func Distances(p Plan, to api.Point) ([]int, api.Errno) {
	if e := check(p, to); e != api.OK {
		return nil, e
	}
	return distancesOf(p, to), api.OK
}

// distancesOf returns the distances of the places of a valid plan. It visits the destination first, then the places at the distance 1, and so on.
func distancesOf(p Plan, to api.Point) []int {
	out := slices.Repeat([]int{noWay}, len(p.Places))
	start, _ := Index(p, to)
	out[start] = 0
	found := []int{start}
visit:
	for k := 0; k < len(found); k++ {
		at := found[k]
		if at != start && !p.Places[at].Transfer {
			continue
		}
		for _, code := range neighborsOf(p, p.Places[at].Code) {
			if len(found) == len(p.Places) {
				break visit
			}
			if i, _ := Index(p, code); out[i] == noWay {
				out[i] = out[at] + 1
				found = append(found, i)
			}
		}
	}
	return slices.Clip(out)
}

// Heights returns the height of each place for a destination.
func Heights(p Plan, to api.Point) ([]int, api.Errno) {
	if e := check(p, to); e != api.OK {
		return nil, e
	}
	return heightsOf(distancesOf(p, to)), api.OK
}

// heightsOf returns the heights of places by their distances. Places of the same distance are ordered by code as they are by index.
func heightsOf(distances []int) []int {
	var order []int
	for i, d := range distances {
		if d != noWay {
			order = append(order, i)
		}
	}
	slices.SortStableFunc(order, func(i, j int) int { return cmp.Compare(distances[i], distances[j]) })
	out := slices.Clone(distances)
	for height, i := range order {
		out[i] = height
	}
	return slices.Clip(out)
}

// Choices returns the places to which a message may go next.
func Choices(p Plan, at, to api.Point) ([]Choice, api.Errno) {
	if e := check(p, at, to); e != api.OK {
		return nil, e
	}
	if at == to {
		return nil, api.ErrArg
	}
	distances := distancesOf(p, to)
	heights := heightsOf(distances)
	own, _ := Index(p, at)
	var out []Choice
	for _, next := range neighborsOf(p, at) {
		i, _ := Index(p, next)
		isLower := heights[i] != noWay && heights[i] < heights[own]
		if isLower && (p.Places[i].Transfer || next == to) {
			out = append(out, Choice{Next: next, Rank: distances[i]})
		}
	}
	slices.SortFunc(out, func(a, b Choice) int { return cmp.Or(cmp.Compare(a.Rank, b.Rank), cmp.Compare(a.Next, b.Next)) })
	return slices.Clip(out), api.OK
}
