package world

import (
	"slices"
	"testing"

	"dryrot/api"
	"dryrot/eval"
	"dryrot/query"
)

// anyQuery is one of a few, about labels that chance makes.
func (c *chance) anyQuery(t *testing.T) api.Query {
	t.Helper()
	texts := []string{
		`{}`, `{a="x1"}`, `sum ({})`, `count by (a) ({b!=""})`, `sum by (b) (sum_over({}[7]))`, `max without (b) (last_over({a!="x2"}[20] offset 30))`,
		`{a="x0"} - {a="x0"} offset 9`, `{} unless {a=~"x[12]"}`, `delta_over({b="y1"}[50]) or {a="x3"}`, `2 * changes_over({}[90]) + 1`, `first_over({}[3]) and {} offset 60`, `group (min_over({b=""}[1]))`,
	}
	q, e := query.Parse(texts[c.Intn(len(texts))])
	if e != api.OK {
		t.Fatal(texts, e)
	}
	return q
}

// ask holds what a query comes to over the store against what it comes to over the model, and tells how many times were told, and how many not.
func (p *play) ask() (int, int) {
	p.t.Helper()
	q := p.anyQuery(p.t)
	from := p.clock - p.Intn(150)
	to, step := from+p.Intn(150), 1+p.Intn(9)
	first, last := eval.Needs(q, from, to)
	answer := p.w.Do(selects(nil, first, last)).Answer
	means, _ := p.m.Select(nil, first, last)
	got, e := eval.Over(q, answer, from, to, step)
	wanted, f := eval.Over(q, api.Answer{Series: means}, from, to, step)
	if f != api.OK || e != f || len(answer.Gaps) == 0 && len(got.Holes) > 0 || p.w.Worst() < 2 && len(got.Holes) > 0 {
		p.fail(brief(q), " from ", from, " to ", to, " by ", step, ": ", int(e), ", ", int(f), ", holes ", got.Holes, ", gaps ", answer.Gaps)
	}
	told := slices.DeleteFunc(wanted.Points, func(o api.Point) bool { return slices.Contains(got.Holes, o.T) })
	same := func(o, other api.Point) bool {
		return o.T == other.T && o.V == other.V && slices.Equal(o.Labels, other.Labels)
	}
	if !slices.EqualFunc(got.Points, told, same) {
		p.fail(brief(q), " from ", from, " to ", to, " by ", step, ": ", brief(got), ", not ", brief(told))
	}
	return len(got.Points), len(got.Holes)
}

// P6: whatever is damaged, at each time that is no hole a query comes to what it comes to over the model.
func TestP6Queries(t *testing.T) {
	points, holes := 0, 0
	for seed := range int64(30) {
		p := newPlay(t, seed, 3000)
		for range 60 {
			for range p.Intn(6) {
				if seed%3 > 0 {
					p.do(p.rot(p.w.Disk()))
				} else {
					p.rotOne()
				}
			}
			if p.Intn(3) > 0 {
				p.operate(false)
			} else {
				p.keepUp(false)
			}
			for range 4 {
				more, without := p.ask()
				points, holes = points+more, holes+without
			}
		}
	}
	if points < 10000 || holes < 1000 {
		t.Error(points, " points, ", holes, " holes")
	}
}
