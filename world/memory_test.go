package world

import (
	"reflect"
	"slices"
	"testing"

	"dryrot/api"
)

// roomy is a step of a kind, whose lists have room behind their ends that nobody may touch.
func roomy(k int) api.Step {
	rows := append(rows(5, 2, "a", "x"), row(77, 78, "room", "behind"))
	for i := range rows {
		rows[i].Labels = append(rows[i].Labels, api.Label{Name: "room", Value: "behind"})[:1]
	}
	return api.Step{
		Kind: k, N: 1, From: 3, To: 9,
		Rows:     rows[:2],
		Matchers: append(is("a", "x"), is("room", "behind")...)[:1],
		Kept:     []api.Kept{{Name: "w1.a", Bytes: 5}, {Name: "room", Bytes: 9}}[:1],
	}
}

// whole is all that a step has in memory, room and all.
func whole(s api.Step) []any {
	l := []any{s, s.Rows[:cap(s.Rows)], s.Matchers[:cap(s.Matchers)], s.Kept[:cap(s.Kept)]}
	for _, r := range s.Rows[:cap(s.Rows)] {
		l = append(l, r.Labels[:cap(r.Labels)])
	}
	return l
}

func TestStepsAreNeitherChangedNorKept(t *testing.T) {
	w := fresh(t, 300)
	for k := range 16 {
		if k == api.StepDelete {
			continue // it would take what the others are to show
		}
		s := roomy(k)
		w.Do(s)
		if !reflect.DeepEqual(whole(s), whole(roomy(k))) {
			t.Errorf("kind %d: %s", k, brief(whole(s)))
		}
		for _, r := range s.Rows[:cap(s.Rows)] {
			clear(r.Labels[:cap(r.Labels)])
		}
		clear(s.Rows[:cap(s.Rows)])
		clear(s.Matchers[:cap(s.Matchers)])
		clear(s.Kept[:cap(s.Kept)])
		if w.Engine() == nil {
			must(t, w, kind(api.StepOpen))
		}
		if k >= api.StepAppend {
			wantTold(t, w, all(), []api.Series{series(rows(5, 2, "a", "x")...)})
		}
	}
	s := deletes(append(is("a", "x"), is("room", "behind")...)[:1], 5, 5)
	must(t, w, s)
	s.Matchers[0].Value = "y"
	wantTold(t, w, all(), []api.Series{series(rows(6, 1, "a", "x")...)})
	must(t, w, kind(api.StepCut), kind(api.StepTick))
	wantTold(t, w, all(), []api.Series{series(rows(6, 1, "a", "x")...)})
}

func scribble(r api.Reply) {
	for _, s := range r.Answer.Series {
		clear(s.Labels[:cap(s.Labels)])
		clear(s.Samples[:cap(s.Samples)])
	}
	clear(r.Answer.Series[:cap(r.Answer.Series)])
	clear(r.Answer.Gaps[:cap(r.Answer.Gaps)])
	clear(r.Names[:cap(r.Names)])
}

func TestRepliesAreNewMemory(t *testing.T) {
	w := fresh(t, 300)
	must(t, w, appends(rows(5, 2, "a", "x")...), kind(api.StepCut), appends(rows(50, 2, "b", "y")...), kind(api.StepCut), appends(rows(90, 2, "a", "z")...))
	for _, gap := range []bool{false, true} {
		if gap {
			turned(t, w, "c2.0", "c2.p")
		}
		for _, s := range []api.Step{all(), names(""), names("a")} {
			first, second := w.Do(s), w.Do(s)
			if len(first.Answer.Series)+len(first.Names) == 0 && s.Kind == api.StepSelect {
				t.Errorf("%s: nothing is told", brief(s))
			}
			kept := w.Do(s)
			scribble(first)
			if third := w.Do(s); !sameReply(second, kept) || !sameReply(second, third) {
				t.Errorf("%s: %s, not %s", brief(s), brief(third), brief(second))
			}
		}
	}
	if r := w.Do(all()); len(r.Answer.Gaps) != 1 || !slices.Equal(r.Answer.Gaps, []api.Gap{{From: 50, To: 51}}) {
		t.Error(brief(r))
	}
}
