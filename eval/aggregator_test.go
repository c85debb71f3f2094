package eval

import (
	"math"
	"math/rand"
	"slices"
	"testing"

	"dryrot/api"
)

var (
	calls = []string{"first_over", "last_over", "min_over", "max_over", "sum_over", "count_over", "delta_over", "changes_over"}
	folds = []string{"sum", "min", "max", "count", "group"}
)

// valued is samples of these values, one a time.
func valued(l ...uint64) []api.Sample {
	var all []api.Sample
	for i, v := range l {
		all = append(all, api.Sample{T: i, V: v})
	}
	return all
}

func TestP29_3CallsAndFolds(t *testing.T) {
	const most = math.MaxUint64
	for _, c := range []struct {
		l     []uint64
		calls [8]uint64 // in the order of calls
	}{
		{[]uint64{5}, [8]uint64{5, 5, 5, 5, 5, 1, 0, 0}},
		{[]uint64{0}, [8]uint64{0, 0, 0, 0, 0, 1, 0, 0}},
		{[]uint64{most}, [8]uint64{most, most, most, most, most, 1, 0, 0}},
		{[]uint64{5, 5}, [8]uint64{5, 5, 5, 5, 10, 2, 0, 0}},
		{[]uint64{3, 8}, [8]uint64{3, 8, 3, 8, 11, 2, 5, 1}},
		{[]uint64{8, 3}, [8]uint64{8, 3, 3, 8, 11, 2, most - 4, 1}},
		{[]uint64{4, 9, 1, 6}, [8]uint64{4, 6, 1, 9, 20, 4, 2, 3}},
		{[]uint64{4, 9, 9, 4, 4, 9}, [8]uint64{4, 9, 4, 9, 39, 6, 5, 3}},
		{[]uint64{1, 2, 2}, [8]uint64{1, 2, 1, 2, 5, 3, 1, 1}},
		{[]uint64{most, most}, [8]uint64{most, most, most, most, most - 1, 2, 0, 0}},
		{[]uint64{most, 0, 1}, [8]uint64{most, 1, 0, most, 0, 3, 2, 2}},
		{[]uint64{0, most, 0}, [8]uint64{0, 0, 0, most, most, 3, 0, 2}},
		{[]uint64{1 << 63, 1 << 63, 1}, [8]uint64{1 << 63, 1, 1, 1 << 63, 1, 3, 1<<63 + 1, 1}},
	} {
		for i, name := range calls {
			if v, ok := Call(name, valued(c.l...)); !ok || v != c.calls[i] {
				t.Errorf("Call(%s, %d) is %d, %v; want %d", name, c.l, v, ok, c.calls[i])
			}
		}
		want := map[string]uint64{"sum": c.calls[4], "min": c.calls[2], "max": c.calls[3], "count": c.calls[5], "group": 1}
		for _, name := range folds {
			if v, ok := Fold(name, c.l); !ok || v != want[name] {
				t.Errorf("Fold(%s, %d) is %d, %v; want %d", name, c.l, v, ok, want[name])
			}
		}
	}
}

// TestP29_3TimesPlayNoPart: the first one is the list's first, whatever the times.
func TestP29_3TimesPlayNoPart(t *testing.T) {
	l := samples(9, 4, 3, 7, 3, 7, math.MinInt, 2)
	for i, want := range []uint64{4, 2, 2, 7, 20, 4, math.MaxUint64 - 1, 2} {
		if v, ok := Call(calls[i], l); !ok || v != want {
			t.Errorf("Call(%s, %v) is %d, %v; want %d", calls[i], l, v, ok, want)
		}
	}
}

func TestP29_3NoNamesAndNoValues(t *testing.T) {
	wrong := []string{"", "over", "_over", "Sum", "sum ", " sum", "SUM_OVER", "sumover", "avg", "avg_over", "sum_over_over", "group_over", "_over_over", "first", "last", "delta", "changes", "by", "+", "or", "sum\x00", "sum_ove", "\xff"}
	for _, name := range slices.Concat(wrong, folds) {
		if v, ok := Call(name, valued(1, 2)); v != 0 || ok {
			t.Errorf("Call(%q) is %d, %v", name, v, ok)
		}
	}
	for _, name := range slices.Concat(wrong, calls) {
		if v, ok := Fold(name, []uint64{1, 2}); v != 0 || ok {
			t.Errorf("Fold(%q) is %d, %v", name, v, ok)
		}
	}
	for _, name := range slices.Concat(wrong, calls, folds) {
		for _, n := range []int{0, 3} {
			if v, ok := Call(name, valued(1, 2, 3)[:0:n]); v != 0 || ok {
				t.Errorf("Call(%q) of nothing is %d, %v", name, v, ok)
			}
			if v, ok := Fold(name, make([]uint64, n)[:0]); v != 0 || ok {
				t.Errorf("Fold(%q) of nothing is %d, %v", name, v, ok)
			}
		}
		if v, ok := Call(name, nil); v != 0 || ok {
			t.Errorf("Call(%q, nil) is %d, %v", name, v, ok)
		}
		if v, ok := Fold(name, nil); v != 0 || ok {
			t.Errorf("Fold(%q, nil) is %d, %v", name, v, ok)
		}
	}
}

// plainMade is what the chapter says of calls and folds, told once more; of no other name, and of at least one value.
func plainMade(name string, l []uint64) uint64 {
	var sum, changes uint64
	for i, v := range l {
		sum += v
		if i > 0 && l[i-1] != v {
			changes++
		}
	}
	switch name {
	case "first_over":
		return l[0]
	case "last_over":
		return l[len(l)-1]
	case "min_over", "min":
		return slices.Min(l)
	case "max_over", "max":
		return slices.Max(l)
	case "sum_over", "sum":
		return sum
	case "count_over", "count":
		return uint64(len(l))
	case "delta_over":
		return l[len(l)-1] - l[0]
	case "changes_over":
		return changes
	}
	return 1
}

func someValue(r *rand.Rand) uint64 {
	return []uint64{uint64(r.Intn(4)), uint64(r.Intn(4)), r.Uint64(), math.MaxUint64 - uint64(r.Intn(3))}[r.Intn(4)]
}

func TestP29_3OfAny(t *testing.T) {
	r := rand.New(rand.NewSource(1))
	for range 5000 {
		l := make([]uint64, 1+r.Intn(8))
		for i := range l {
			l[i] = someValue(r)
		}
		for _, name := range calls {
			if v, ok := Call(name, valued(l...)); !ok || v != plainMade(name, l) {
				t.Errorf("Call(%s, %d) is %d, %v; want %d", name, l, v, ok, plainMade(name, l))
			}
		}
		for _, name := range folds {
			if v, ok := Fold(name, l); !ok || v != plainMade(name, l) {
				t.Errorf("Fold(%s, %d) is %d, %v; want %d", name, l, v, ok, plainMade(name, l))
			}
		}
	}
}
