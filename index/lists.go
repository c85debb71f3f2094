package index

import "slices"

// Union is what is in one of two lists.
func Union(a, b []int) []int { return sift(a, b, inEither) }

// Meet is what is in both.
func Meet(a, b []int) []int { return sift(a, b, inBoth) }

// Minus is what is in the first one alone.
func Minus(a, b []int) []int { return sift(a, b, inFirstAlone) }

func inEither(inA, inB bool) bool { return inA || inB }

func inBoth(inA, inB bool) bool { return inA && inB }

func inFirstAlone(inA, inB bool) bool { return inA && !inB }

// sift is the numbers of two lists that are kept for being in one, in both, rising, each once.
func sift(a, b []int, keep func(inA, inB bool) bool) []int {
	a, b = rising(a), rising(b)
	var kept []int
	for len(a) > 0 || len(b) > 0 {
		n := least(a, b)
		inA := len(a) > 0 && a[0] == n
		inB := len(b) > 0 && b[0] == n
		if keep(inA, inB) {
			kept = append(kept, n)
		}
		a, b = behind(a, inA), behind(b, inB)
	}
	return kept
}

// rising is the numbers of any list, rising, each once.
func rising(l []int) []int {
	sorted := slices.Clone(l)
	slices.Sort(sorted)
	return slices.Compact(sorted)
}

// least is the lesser one of what two rising lists begin with; one of them may be empty.
func least(a, b []int) int {
	switch {
	case len(a) == 0:
		return b[0]
	case len(b) == 0:
		return a[0]
	}
	return min(a[0], b[0])
}

// behind is a list without its first number, if that was met.
func behind(l []int, met bool) []int {
	if met {
		return l[1:]
	}
	return l
}
