package world

import (
	"testing"

	"dryrot/api"
)

// The examples of the whole, each a script.

func it() []api.Series { return []api.Series{series(row(5, 7, "a", "x"))} }

// withIt is a world that has it.
func withIt(t *testing.T, steps ...api.Step) *World {
	t.Helper()
	w := fresh(t, 400)
	must(t, w, appends(row(5, 7, "a", "x")))
	must(t, w, steps...)
	return w
}

func TestExampleOfTheWhole1(t *testing.T) {
	wantTold(t, withIt(t), all(), it())
}

func TestExampleOfTheWhole2AByteTurned(t *testing.T) {
	w := withIt(t, kind(api.StepCut), rots("c1.0", 0, 40, 1))
	wantTold(t, w, all(), it())
	wantWorst(t, w, 1)
	must(t, w, times(api.StepScrub, w.Engine().Status().Groups))
	wantTold(t, w, all(), it())
	wantWorst(t, w, 0)
}

func TestExampleOfTheWhole3TwoFilesTurned(t *testing.T) {
	w := withIt(t, appends(row(9, 8, "a", "y")), kind(api.StepCut), appends(row(7, 1, "a", "x"), row(12, 2, "a", "x")))
	must(t, w, rots("c1.0", 0, 40, 1), rots("c1.2", 0, 40, 1))
	wantTold(t, w, all(), []api.Series{series(row(12, 2, "a", "x"))}, api.Gap{From: 5, To: 9})
	wantWorst(t, w, 2)
}

func TestExampleOfTheWhole4BetweenLogAndAnchor(t *testing.T) {
	w := withIt(t, times(api.StepFuse, 4)) // the log is written and synced, in both files
	want(t, w, api.ErrDead, appends(row(6, 8, "a", "x")))
	must(t, w, kind(api.StepCrash), kind(api.StepOpen))
	wantTold(t, w, all(), it())
}

func TestExampleOfTheWhole5GoneForEver(t *testing.T) {
	w := withIt(t, times(api.StepKeep, 10), appends(row(25, 2, "a", "x")), times(api.StepKeep, 0))
	for range 2 {
		wantTold(t, w, all(), []api.Series{series(row(25, 2, "a", "x"))})
		want(t, w, api.ErrOld, appends(row(5, 7, "a", "x")))
		must(t, w, kind(api.StepCut), kind(api.StepCrash), kind(api.StepOpen))
	}
}

func TestExampleOfTheWhole6DeleteCutMerge(t *testing.T) {
	w := withIt(t, kind(api.StepCut), appends(row(6, 8, "a", "y"), row(7, 9, "a", "x")), kind(api.StepCut))
	must(t, w, deletes(is("a", "y"), 0, 9), deletes(nil, 7, 7))
	for _, s := range []api.Step{appends(row(8, 1, "a", "z")), kind(api.StepCut), deletes(is("a", "z"), 8, 8), kind(api.StepTick), kind(api.StepTick)} {
		must(t, w, s)
		wantTold(t, w, selects(nil, 0, 7), it())
	}
	wantTold(t, w, all(), it())
	if n := blocks(w); n != 1 {
		t.Error(n, " blocks")
	}
}

func TestExampleOfTheWhole7TheManifest(t *testing.T) {
	w := withIt(t, kind(api.StepCut), kind(api.StepClose), rots("m2.a", 0, 40, 1), rots("m2.b", 0, 40, 1))
	want(t, w, api.ErrManifest, kind(api.StepOpen))
	must(t, w, kind(api.StepFsck), kind(api.StepOpen))
	wantTold(t, w, all(), it())
}

func TestExampleOfTheWhole8BothAnchors(t *testing.T) {
	w := withIt(t, kind(api.StepClose), rots("anchor.a", 0, 40, 1), rots("anchor.b", 0, 40, 1))
	want(t, w, api.ErrAnchor, kind(api.StepOpen), kind(api.StepFsck))
}
