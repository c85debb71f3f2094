package world

import (
	"fmt"
	"math/rand"

	"dryrot/api"
	"dryrot/disk"
)

// chance makes steps about a clock that goes on.
type chance struct {
	*rand.Rand
	clock int
}

func newChance(seed int64) *chance { return &chance{Rand: rand.New(rand.NewSource(seed))} }

func (c *chance) labels() []api.Label {
	l := of("a", fmt.Sprint("x", c.Intn(4)))
	if c.Intn(2) == 0 {
		l = append(l, api.Label{Name: "b", Value: fmt.Sprint("y", c.Intn(3))})
	}
	return l
}

func (c *chance) matchers() []api.Matcher {
	var m []api.Matcher
	for range c.Intn(3) {
		m = append(m, api.Matcher{Kind: 1 + c.Intn(4), Name: string(rune('a' + c.Intn(2))), Value: fmt.Sprint(string(rune('x'+c.Intn(2))), c.Intn(3))})
	}
	return m
}

func (c *chance) span() (int, int) {
	if c.Intn(4) == 0 {
		return least, greatest
	}
	from := c.clock - c.Intn(150)
	return from, from + c.Intn(100) - 5
}

func (c *chance) rows() []api.Row {
	var l []api.Row
	for range 1 + c.Intn(25) {
		c.clock += c.Intn(3)
		l = append(l, api.Row{Labels: c.labels(), T: c.clock - c.Intn(20), V: uint64(c.Intn(5)) << (8 * c.Intn(8))})
	}
	return l
}

// operation is a step of which the model must hear.
func (c *chance) operation() api.Step {
	switch c.Intn(12) {
	case 0, 1:
		from, to := c.span()
		return deletes(c.matchers(), from, to)
	case 2:
		return times(api.StepKeep, 50+c.Intn(700))
	}
	return appends(c.rows()...)
}

// question is a step that is told something.
func (c *chance) question() api.Step {
	if c.Intn(3) == 0 {
		return names([]string{"", "a", "b", "c"}[c.Intn(4)])
	}
	from, to := c.span()
	return selects(c.matchers(), from, to)
}

// upkeep is a step that changes no answer.
func (c *chance) upkeep() api.Step {
	return times([]int{api.StepCut, api.StepTick, api.StepTick, api.StepScrub}[c.Intn(4)], c.Intn(4)-1)
}

// spot is an extent of a disk; one of no name, if there is none.
func (c *chance) spot(d *disk.Disk) api.Spot {
	files := d.List()
	if len(files) == 0 {
		return api.Spot{}
	}
	file := files[c.Intn(len(files))]
	return api.Spot{Name: file, Index: c.Intn(max(d.Extents(file), 1))}
}

func (c *chance) rot(d *disk.Disk) api.Step {
	s := c.spot(d)
	return rots(s.Name, s.Index, c.Intn(api.Size), 1<<c.Intn(8))
}

// kept is what a crash keeps: all or nothing of an extent, or, if it may tear, any of its bytes.
func (c *chance) kept(d *disk.Disk, tears bool) []api.Kept {
	var l []api.Kept
	for _, file := range d.List() {
		for i := range d.Extents(file) {
			bytes := api.Size * c.Intn(2)
			if tears && c.Intn(2) == 0 {
				bytes = c.Intn(api.Size)
			}
			l = append(l, api.Kept{Name: file, Index: i, Bytes: bytes})
		}
	}
	return l
}

// wild is a number of any size.
func (c *chance) wild() int {
	switch c.Intn(6) {
	case 0:
		return c.Intn(300) - 20
	case 1:
		return []int{least, greatest, 1 << 62, -1 << 62, 1<<62 + 1, 1 << 31}[c.Intn(6)]
	case 2:
		return int(c.Uint64())
	}
	return c.Intn(5) - 1
}

// wildStep is a step of anything.
func (c *chance) wildStep(d *disk.Disk) api.Step {
	s := api.Step{Kind: c.Intn(17) - 1, N: c.wild(), From: c.wild(), To: c.wild(), Name: c.spot(d).Name, Matchers: c.matchers(), Kept: c.kept(d, true)}
	if c.Intn(2) == 0 {
		s.Name = []string{"", "a", "b", "anchor.a", "\xff", "M1.a"}[c.Intn(6)]
	}
	for range c.Intn(3) {
		s.Rows = append(s.Rows, api.Row{Labels: c.labels(), T: c.clock + c.wild(), V: c.Uint64()})
	}
	if c.Intn(8) == 0 {
		s.Rows = append(s.Rows, api.Row{Labels: of("", "")})
	}
	if c.Intn(8) == 0 {
		s.Matchers = append(s.Matchers, api.Matcher{Kind: c.wild(), Name: "a", Value: "["})
	}
	if c.Intn(40) == 0 {
		s.Kind = c.wild()
	}
	return s
}

// anyStep is a step of a world on such a disk.
func (c *chance) anyStep(d *disk.Disk) api.Step {
	switch c.Intn(24) {
	case 0, 1, 2, 3, 4, 5:
		return c.operation()
	case 6, 7, 8, 9:
		return c.upkeep()
	case 10, 11, 12:
		return c.question()
	case 13, 14, 15:
		return c.rot(d)
	case 16:
		return times(api.StepFuse, c.Intn(80))
	case 17:
		return api.Step{Kind: api.StepCrash, Kept: c.kept(d, c.Intn(2) == 0)}
	case 18, 19, 20:
		return kind(api.StepOpen)
	case 21:
		return kind(api.StepFsck)
	case 22:
		return kind(api.StepClose)
	}
	return c.wildStep(d)
}
