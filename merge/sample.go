package merge

import (
	"sort"

	"dryrot/api"
)

// Sample is the last sample of each step, if it is less than back old.
func Sample(l []api.Sample, from, to, step, back int) ([]api.Sample, api.Errno) {
	if !rise(l) || step < 1 || from > to || back < 0 {
		return nil, api.ErrArg
	}
	steps := between(from, to) / uint64(step) // times behind the first one
	if steps >= api.MaxSteps {
		return nil, api.ErrMany
	}
	var told []api.Sample
	for i := range int(steps) + 1 {
		t := from + i*step // what wraps round on the way is right at the end: t is no later than to
		behind := sort.Search(len(l), func(place int) bool { return l[place].T > t })
		if behind > 0 && between(l[behind-1].T, t) < uint64(back) {
			told = append(told, api.Sample{T: t, V: l[behind-1].V})
		}
	}
	return told, api.OK
}

// between is how far a time is from one that is no later: no number with a sign has it in all cases.
func between(from, to int) uint64 { return uint64(to) - uint64(from) }
