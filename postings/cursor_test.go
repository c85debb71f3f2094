package postings

import (
	"math"
	"math/rand"
	"slices"
	"testing"
	"time"

	"dryrot/api"
)

// of is the set of these numbers.
func of(l ...int) api.Set { return api.Set{Kind: api.SetList, Packed: plainBytes(l)} }

func allOf(kids ...api.Set) api.Set { return api.Set{Kind: api.SetAnd, Kids: kids} }

func oneOf(kids ...api.Set) api.Set { return api.Set{Kind: api.SetOr, Kids: kids} }

func butNot(kids ...api.Set) api.Set { return api.Set{Kind: api.SetNot, Kids: kids} }

// nested is a set of a kind within others of it, so many in all.
func nested(kind, n int) api.Set {
	s := of(1, 2)
	for range n - 1 {
		s = api.Set{Kind: kind, Kids: []api.Set{s}}
	}
	return s
}

// copies is a set so many times.
func copies(s api.Set, n int) []api.Set { return slices.Repeat([]api.Set{s}, n) }

// plainHas tells whether a set has a number, by the chapter's words.
func plainHas(s api.Set, n int) bool {
	has := func(s api.Set) bool { return plainHas(s, n) }
	switch s.Kind {
	case api.SetList:
		l, _ := plainUnpack(s.Packed)
		return slices.Contains(l, n)
	case api.SetAnd:
		return len(s.Kids) > 0 && !slices.ContainsFunc(s.Kids, func(s api.Set) bool { return !has(s) })
	case api.SetOr:
		return slices.ContainsFunc(s.Kids, has)
	}
	return has(s.Kids[0]) && !slices.ContainsFunc(s.Kids[1:], has)
}

// plainNumbers is the numbers of a set, none of which is beyond most.
func plainNumbers(s api.Set, most int) []int {
	var l []int
	for n := range most + 1 {
		if plainHas(s, n) {
			l = append(l, n)
		}
	}
	return l
}

// plainCount is how many sets a set has, itself among them, and how many are within one another at most.
func plainCount(s api.Set) (sets, nest int) {
	sets = 1
	if s.Kind == api.SetList {
		return 1, 1
	}
	for _, kid := range s.Kids {
		n, deep := plainCount(kid)
		sets, nest = sets+n, max(nest, deep)
	}
	return sets, nest + 1
}

func plainCan(s api.Set) bool {
	sets, nest := plainCount(s)
	return sets <= 40 && nest <= 12 && plainKinds(s)
}

func plainKinds(s api.Set) bool {
	switch s.Kind {
	case api.SetList:
		_, ok := plainUnpack(s.Packed)
		return ok
	case api.SetAnd, api.SetOr, api.SetNot:
		return (s.Kind != api.SetNot || len(s.Kids) > 0) && !slices.ContainsFunc(s.Kids, func(s api.Set) bool { return !plainKinds(s) })
	}
	return false
}

// someSet is a set of numbers up to 60, its kinds at most so many within one another; fields that play no part hold anything.
func someSet(r *rand.Rand, nest, kids int) api.Set {
	wild := api.Set{Kind: r.Intn(7) - 1, Packed: []byte{0x80}, Kids: []api.Set{{Kind: 9}}}
	if nest <= 1 || r.Intn(4) == 0 {
		l := every(0, 1, 61)
		s := of(slices.DeleteFunc(l, func(int) bool { return r.Intn(3) == 0 })...)
		if r.Intn(2) == 0 {
			s.Kids = []api.Set{wild}
		}
		return s
	}
	s := api.Set{Kind: api.SetAnd + r.Intn(3)}
	for range 1 + r.Intn(kids) {
		s.Kids = append(s.Kids, someSet(r, nest-1, kids))
	}
	if r.Intn(2) == 0 {
		s.Packed = wild.Packed
	}
	return s
}

// rightSets is sets that may be, the edges among them.
func rightSets() []api.Set {
	sets := []api.Set{
		of(), of(0), of(5, 6, 300), of(math.MaxInt32), of(0, math.MaxInt32),
		allOf(), oneOf(), allOf(of()), oneOf(of()), butNot(of()), butNot(of(3)), allOf(of(3)), oneOf(of(3)),
		allOf(allOf()), oneOf(allOf(), oneOf(), of(3)), allOf(of(1, 2), oneOf()), butNot(of(1, 2), allOf()), butNot(allOf(), of(1)), butNot(oneOf(of(1), of(2)), of(1), of(2)),
		{Kind: api.SetList, Packed: []byte{0}, Kids: []api.Set{{}, butNot()}},
		{Kind: api.SetList, Packed: []byte{0}, Kids: copies(of(), 50)},
		{Kind: api.SetAnd, Packed: []byte{1, 2, 3}}, {Kind: api.SetOr, Packed: []byte{0x80}, Kids: []api.Set{of(3)}}, {Kind: api.SetNot, Packed: []byte{9}, Kids: []api.Set{of(3)}},
	}
	for _, kind := range []int{api.SetAnd, api.SetOr, api.SetNot} {
		sets = append(sets, api.Set{Kind: kind, Kids: copies(of(1), 39)}, nested(kind, 12))
		sets = append(sets, api.Set{Kind: kind, Kids: copies(nested(kind, 11), 3)}, api.Set{Kind: kind, Kids: copies(oneOf(copies(of(2), 12)...), 3)})
	}
	return sets
}

// wrongSets is sets that may not be.
func wrongSets() []api.Set {
	sets := []api.Set{{}, {Kids: []api.Set{of(1)}}, {Packed: []byte{0}}, {Kind: api.SetList}, {Kind: api.SetList, Packed: []byte{}}, {Kind: api.SetList, Packed: []byte{1}}, {Kind: api.SetList, Kids: []api.Set{of(1)}}, {Kind: api.SetList, Packed: []byte{3, 5, 3, 0, 0xa5, 2, 0}}, {Kind: api.SetList, Packed: []byte{0x80, 0}}, {Kind: api.SetList, Packed: plainBytes(every(0, 1, 100001))}, butNot(), {Kind: api.SetNot, Packed: []byte{0}}}
	for _, kind := range []int{0, -1, 5, math.MinInt, math.MaxInt, 1 << 32} {
		sets = append(sets, api.Set{Kind: kind, Packed: []byte{0}, Kids: []api.Set{of(1)}})
	}
	for _, wrong := range slices.Clone(sets) {
		sets = append(sets, allOf(wrong), oneOf(of(1), wrong), butNot(wrong), butNot(of(1), wrong), butNot(of(), of(1), allOf(of(), oneOf(of(1), wrong))), allOf(of(), wrong, of()))
	}
	for _, kind := range []int{api.SetAnd, api.SetOr, api.SetNot} {
		sets = append(sets, api.Set{Kind: kind, Kids: copies(of(1), 40)}, nested(kind, 13), api.Set{Kind: kind, Kids: copies(of(1), 1<<20)}, nested(kind, 1<<16))
		sets = append(sets, api.Set{Kind: kind, Kids: []api.Set{of(1), nested(kind, 12)}}, api.Set{Kind: kind, Kids: append(copies(oneOf(copies(of(2), 12)...), 3), of(1))})
	}
	for _, kind := range []int{api.SetAnd, api.SetOr, api.SetNot} { // within itself without an end
		within := []api.Set{of(1), {Kind: kind}}
		within[1].Kids = within
		sets = append(sets, within[1], oneOf(within[1]))
	}
	return sets
}

func TestP25_2OfWhatMayBe(t *testing.T) {
	for _, s := range rightSets() {
		if !Can(s) {
			t.Errorf("%s may not be", brief(s))
		}
		if c, e := Open(s); e != api.OK || c == nil {
			t.Errorf("Open(%s) is %v, %v", brief(s), c, e)
		}
	}
}

func TestP25_2OfWhatMayNotBe(t *testing.T) {
	for i, s := range wrongSets() { // some have no end, and so no words
		if Can(s) {
			t.Errorf("wrong set %d, of kind %d, may be", i, s.Kind)
		}
		if c, e := Open(s); e != api.ErrArg || c != nil {
			t.Errorf("Open of wrong set %d, of kind %d, is %v, %v", i, s.Kind, c, e)
		}
	}
}

func TestP25_2OfAnySet(t *testing.T) {
	r := rand.New(rand.NewSource(3))
	seen := [2]int{}
	for range 4000 {
		s := someSet(r, 1+r.Intn(14), 1+r.Intn(4))
		if r.Intn(2) == 0 && len(s.Kids) > 0 {
			s.Kids[r.Intn(len(s.Kids))] = []api.Set{{}, butNot(), {Kind: api.SetList}, allOf(), {Kind: 5}}[r.Intn(5)]
		}
		want := plainCan(s)
		if want {
			seen[1]++
		} else {
			seen[0]++
		}
		if Can(s) != want {
			t.Fatalf("Can(%v) is %v", s, !want)
		}
		if c, e := Open(s); (e == api.OK) != want || (c != nil) != want || !want && e != api.ErrArg {
			t.Fatalf("Open(%v) is %v, %v", s, c, e)
		}
	}
	if seen[0] < 500 || seen[1] < 500 {
		t.Errorf("%d may not be, %d may", seen[0], seen[1])
	}
}

// wantAll holds all numbers of a set, told by All and told one by one, against these.
func wantAll(t *testing.T, s api.Set, want ...int) {
	t.Helper()
	c, e := Open(s)
	if e != api.OK {
		t.Fatalf("Open(%s): %v", brief(s), e)
	}
	if l := c.All(); !slices.Equal(l, want) {
		t.Errorf("%s has %s, want %s", brief(s), brief(l), brief(want))
	}
	c, _ = Open(s)
	var l []int
	for n, ok := c.Next(); ok; n, ok = c.Next() {
		l = append(l, n)
	}
	if !slices.Equal(l, want) {
		t.Errorf("%s has one by one %s, want %s", brief(s), brief(l), brief(want))
	}
}

func TestP25_2KindsOfSets(t *testing.T) {
	a, b, c := of(1, 2, 3, 4), of(2, 3, 5), of(3, 6)
	wantAll(t, of())
	wantAll(t, of(0), 0)
	wantAll(t, of(0, math.MaxInt32), 0, math.MaxInt32)
	wantAll(t, allOf())
	wantAll(t, oneOf())
	wantAll(t, allOf(a), 1, 2, 3, 4)
	wantAll(t, oneOf(a), 1, 2, 3, 4)
	wantAll(t, butNot(a), 1, 2, 3, 4)
	wantAll(t, allOf(a, b), 2, 3)
	wantAll(t, allOf(a, b, c), 3)
	wantAll(t, allOf(c, b, a), 3)
	wantAll(t, oneOf(a, b, c), 1, 2, 3, 4, 5, 6)
	wantAll(t, oneOf(c, b, a), 1, 2, 3, 4, 5, 6)
	wantAll(t, butNot(a, b), 1, 4)
	wantAll(t, butNot(b, a), 5)
	wantAll(t, butNot(a, b, c), 1, 4)
	wantAll(t, butNot(a, of(1), of(4), of(9)), 2, 3)
	wantAll(t, butNot(a, a))
	wantAll(t, allOf(a, a, a), 1, 2, 3, 4)
	wantAll(t, allOf(a, of()))
	wantAll(t, allOf(a, allOf()))
	wantAll(t, butNot(a, allOf(), oneOf()), 1, 2, 3, 4)
	wantAll(t, butNot(oneOf(a, b), allOf(a, b)), 1, 4, 5)
	wantAll(t, butNot(of(math.MaxInt32), of(0)), math.MaxInt32)
	wantAll(t, butNot(of(0, math.MaxInt32), of(math.MaxInt32)), 0)
	wantAll(t, allOf(of(0, math.MaxInt32), of(math.MaxInt32)), math.MaxInt32)
}

func TestP25_2FieldsThatPlayNoPart(t *testing.T) {
	wantAll(t, api.Set{Kind: api.SetList, Packed: plainBytes([]int{4}), Kids: []api.Set{of(5)}}, 4)
	wantAll(t, api.Set{Kind: api.SetOr, Packed: plainBytes([]int{4}), Kids: []api.Set{of(5)}}, 5)
	wantAll(t, api.Set{Kind: api.SetAnd, Packed: plainBytes([]int{4})})
	wantAll(t, api.Set{Kind: api.SetNot, Packed: plainBytes([]int{4}), Kids: []api.Set{of(4)}}, 4)
}

// wantSeek holds one step of a cursor against what is wanted: a number below 0 is none.
func wantSeek(t *testing.T, c *Cursor, n, want int) {
	t.Helper()
	got, ok := c.Seek(n)
	if ok != (want >= 0) || got != max(want, 0) {
		t.Errorf("Seek(%d) is %d, %v; want %d", n, got, ok, want)
	}
}

func wantNext(t *testing.T, c *Cursor, want int) {
	t.Helper()
	got, ok := c.Next()
	if ok != (want >= 0) || got != max(want, 0) {
		t.Errorf("Next is %d, %v; want %d", got, ok, want)
	}
}

func TestP25_2Seek(t *testing.T) {
	for _, s := range []api.Set{of(0, 10, 20, 30), allOf(of(0, 10, 20, 30), of(0, 5, 10, 20, 25, 30)), oneOf(of(0, 20), of(10, 30)), butNot(of(0, 5, 10, 20, 21, 30), of(5, 21))} {
		c, _ := Open(s)
		wantSeek(t, c, 0, 0)
		wantSeek(t, c, 0, 10) // 0 was told
		wantSeek(t, c, -5, 20)
		wantSeek(t, c, 31, -1)
		wantSeek(t, c, math.MaxInt, -1) // what finds nothing tells nothing
		wantSeek(t, c, 30, 30)
		wantSeek(t, c, 30, -1)
		wantSeek(t, c, math.MinInt, -1)
		wantNext(t, c, -1)
		c, _ = Open(s)
		wantSeek(t, c, 11, 20)
		wantNext(t, c, 30)
		wantNext(t, c, -1)
		c, _ = Open(s)
		wantSeek(t, c, math.MinInt, 0)
		wantSeek(t, c, math.MaxInt32, -1)
		wantSeek(t, c, math.MaxInt32+1, -1)
		wantNext(t, c, 10)
		if l := c.All(); !slices.Equal(l, []int{20, 30}) {
			t.Errorf("All behind 10 is %v", l)
		}
		wantSeek(t, c, 0, -1)
		if l := c.All(); len(l) != 0 {
			t.Errorf("All behind All is %v", l)
		}
	}
	c, _ := Open(of(3, math.MaxInt32))
	wantSeek(t, c, 4, math.MaxInt32)
	wantNext(t, c, -1)
	wantSeek(t, c, math.MaxInt32, -1)
	c, _ = Open(of(math.MaxInt32 - 1))
	wantSeek(t, c, math.MaxInt32, -1)
	wantNext(t, c, math.MaxInt32-1)
}

func TestP25_2TwoCursorsOfOneSet(t *testing.T) {
	s := oneOf(of(1, 3), of(2, 4))
	c, _ := Open(s)
	d, _ := Open(s)
	wantNext(t, c, 1)
	wantSeek(t, c, 4, 4)
	wantNext(t, d, 1)
	wantNext(t, d, 2)
	wantNext(t, c, -1)
	wantNext(t, d, 3)
}

func TestP25_2CursorOfAnySet(t *testing.T) {
	r := rand.New(rand.NewSource(4))
	for range 1500 {
		s := someSet(r, 1+r.Intn(4), 3)
		if !plainCan(s) {
			continue
		}
		all := plainNumbers(s, 61)
		wantAll(t, s, all...)
		c, _ := Open(s)
		told := -1
		for range 40 {
			n := []int{r.Intn(70), told, told + 1, told + 1 + r.Intn(8), -r.Intn(9), math.MaxInt, math.MinInt, math.MaxInt32}[r.Intn(8)]
			want := -1
			if i := slices.IndexFunc(all, func(x int) bool { return x >= n && x > told }); i >= 0 {
				want = all[i]
			}
			wantSeek(t, c, n, want)
			told = max(told, want)
		}
		rest := slices.DeleteFunc(all, func(x int) bool { return x <= told })
		if l := c.All(); !slices.Equal(l, rest) {
			t.Fatalf("All of %v behind %d is %v, want %v", s, told, l, rest)
		}
		wantNext(t, c, -1)
	}
}

func TestNoCallMadeIt(t *testing.T) {
	var none *Cursor
	for _, c := range []*Cursor{none, {}} {
		if n, ok := c.Next(); n != 0 || ok {
			t.Errorf("Next is %d, %v", n, ok)
		}
		for _, at := range []int{0, 5, math.MinInt, math.MaxInt} {
			if n, ok := c.Seek(at); n != 0 || ok {
				t.Errorf("Seek(%d) is %d, %v", at, n, ok)
			}
		}
		if l := c.All(); l != nil {
			t.Errorf("All is %v", l)
		}
	}
}

// numbers is all numbers of a set that may be.
func numbers(t *testing.T, s api.Set) []int {
	t.Helper()
	c, e := Open(s)
	if e != api.OK {
		t.Fatalf("Open(%s): %v", brief(s), e)
	}
	return c.All()
}

// wantWithin holds that all of some numbers are among others.
func wantWithin(t *testing.T, some, others []int) {
	t.Helper()
	for _, n := range some {
		if _, ok := slices.BinarySearch(others, n); !ok {
			t.Errorf("%d is not in %s", n, brief(others))
		}
	}
}

func TestP25_4SetsAndTheirKids(t *testing.T) {
	r := rand.New(rand.NewSource(5))
	shared := 0
	for range 600 {
		var kids []api.Set
		for range 1 + r.Intn(4) {
			kids = append(kids, someSet(r, 1+r.Intn(3), 2))
		}
		if !plainCan(oneOf(kids...)) {
			continue
		}
		both, either, first := numbers(t, allOf(kids...)), numbers(t, oneOf(kids...)), numbers(t, butNot(kids...))
		wantWithin(t, first, numbers(t, kids[0]))
		for i, kid := range kids {
			has := numbers(t, kid)
			wantWithin(t, both, has)
			wantWithin(t, has, either)
			if i > 0 && slices.ContainsFunc(first, func(n int) bool { return slices.Contains(has, n) }) {
				t.Errorf("%v, less the others, shares a number with kid %d", kids, i)
			}
		}
		shared += len(both)
	}
	if shared == 0 {
		t.Error("no sets share a number")
	}
}

func TestP25_2GreatSets(t *testing.T) {
	began := time.Now()
	evens, odds := of(every(0, 2, 100000)...), of(every(1, 2, 100000)...)
	wantAll(t, oneOf(copies(evens, 39)...), every(0, 2, 100000)...)
	wantAll(t, allOf(copies(evens, 39)...), every(0, 2, 100000)...)
	wantAll(t, allOf(evens, odds))
	wantAll(t, butNot(evens, allOf(evens, odds)), every(0, 2, 100000)...)
	wantAll(t, butNot(oneOf(evens, odds), allOf(evens, odds), butNot(evens, evens), odds), every(0, 2, 100000)...)
	deep := allOf(evens, odds)
	for range 7 { // none of them, all of them, none of them ..
		deep = butNot(oneOf(evens, odds), deep, allOf())
	}
	wantAll(t, deep, every(0, 1, 200000)...)
	far := allOf(of(append(every(0, 2, 90000), 200001)...), of(append(every(1, 2, 90000), 200001)...)) // long is the way to its only number
	wantAll(t, butNot(evens, far), every(0, 2, 100000)...)
	near := every(0, 1, 40000)
	c, _ := Open(allOf(of(append(near, every(50000, 2, 60000)...)...), of(append(near, every(50001, 2, 60000)...)...)))
	for n := range near { // long is the way to where there is none, and it is asked for again and again
		wantNext(t, c, n)
		wantSeek(t, c, 50000, -1)
	}
	wantNext(t, c, -1)
	if spent := time.Since(began); spent > 20*time.Second {
		t.Errorf("it took %v", spent)
	}
}
