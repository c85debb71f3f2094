package plan

import (
	"cmp"
	"slices"

	"dryrot/api"
)

// block is which block of a list one is. Two may have one number, so its place tells them apart.
type block struct{ number, place int }

// Live is the blocks that count, of all footers that are found.
func Live(l []api.Footer, gen, floor int) []api.Footer {
	heirs := heirsOf(l, gen)
	var live []api.Footer
	for place, f := range l {
		if f.Gen > gen || f.Max < floor && f.Bytes != 0 || isReplaced(block{f.Number, place}, heirs) {
			continue
		}
		f.Parents = slices.Clone(f.Parents)
		live = append(live, f)
	}
	slices.SortStableFunc(live, compareRanks)
	return live
}

func compareRanks(a, b api.Footer) int { return cmp.Compare(a.Rank, b.Rank) }

// heirsOf is, of each number, the blocks up to a generation that have it for a parent.
func heirsOf(l []api.Footer, gen int) map[int][]block {
	heirs := map[int][]block{}
	for place, f := range l {
		if f.Gen > gen {
			continue
		}
		for _, parent := range f.Parents {
			heirs[parent] = append(heirs[parent], block{f.Number, place})
		}
	}
	return heirs
}

// isReplaced tells whether a block is a parent of another one; one that names itself is not replaced by that.
func isReplaced(b block, heirs map[int][]block) bool {
	for _, heir := range heirs[b.number] {
		if heir != b {
			return true
		}
	}
	return false
}
