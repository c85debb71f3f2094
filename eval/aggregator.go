package eval

import (
	"strings"

	"dryrot/api"
)

// aggregator makes one value of many, one by one: begin is what the first one comes to, and next what all up to one come to, from what those ahead of it do, the last one of these, and itself.
type aggregator struct {
	begin func(v uint64) uint64
	next  func(sofar, last, v uint64) uint64
}

// run is an aggregator's way through values: how many it took, the last one, and what they come to.
type run struct {
	taken       int
	last, sofar uint64
}

func (r *run) take(a aggregator, v uint64) {
	if r.taken == 0 {
		r.sofar = a.begin(v)
	} else {
		r.sofar = a.next(r.sofar, r.last, v)
	}
	r.last = v
	r.taken++
}

// Call is what a call makes of samples.
func Call(name string, l []api.Sample) (uint64, bool) {
	a, is := ofCall(name)
	if !is || len(l) == 0 {
		return 0, false
	}
	return a.ofSamples(l), true
}

func (a aggregator) ofSamples(l []api.Sample) uint64 {
	var r run
	for _, s := range l {
		r.take(a, s.V)
	}
	return r.sofar
}

// Fold is what a fold makes of values.
func Fold(name string, l []uint64) (uint64, bool) {
	a, is := ofFold(name)
	if !is || len(l) == 0 {
		return 0, false
	}
	var r run
	for _, v := range l {
		r.take(a, v)
	}
	return r.sofar, true
}

func itself(v uint64) uint64 { return v }

func none(uint64) uint64 { return 0 }

func one(uint64) uint64 { return 1 }

func stay(sofar, _, _ uint64) uint64 { return sofar }

// ofCall is the aggregator of a call's name.
func ofCall(name string) (aggregator, bool) {
	word, is := strings.CutSuffix(name, "_over")
	if !is {
		return aggregator{}, false
	}
	switch word {
	case "first":
		return aggregator{begin: itself, next: stay}, true
	case "last":
		return aggregator{begin: itself, next: func(_, _, v uint64) uint64 { return v }}, true
	case "delta":
		return aggregator{begin: none, next: func(sofar, last, v uint64) uint64 { return sofar + v - last }}, true
	case "changes":
		return aggregator{begin: none, next: changes}, true
	}
	return ofBoth(word)
}

func changes(sofar, last, v uint64) uint64 {
	if v == last {
		return sofar
	}
	return sofar + 1
}

// ofFold is the aggregator of a fold's name.
func ofFold(name string) (aggregator, bool) {
	if name == "group" {
		return aggregator{begin: one, next: stay}, true
	}
	return ofBoth(name)
}

// ofBoth is the aggregator of a word that calls and folds have.
func ofBoth(word string) (aggregator, bool) {
	switch word {
	case "sum":
		return aggregator{begin: itself, next: func(sofar, _, v uint64) uint64 { return sofar + v }}, true
	case "min":
		return aggregator{begin: itself, next: func(sofar, _, v uint64) uint64 { return min(sofar, v) }}, true
	case "max":
		return aggregator{begin: itself, next: func(sofar, _, v uint64) uint64 { return max(sofar, v) }}, true
	case "count":
		return aggregator{begin: one, next: func(sofar, _, _ uint64) uint64 { return sofar + 1 }}, true
	}
	return aggregator{}, false
}
