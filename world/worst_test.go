package world

import (
	"fmt"
	"testing"

	"dryrot/api"
	"dryrot/disk"
)

func TestP24_2Engine(t *testing.T) {
	w := fresh(t, 200)
	if code := w.Engine().Append(rows(5, 2, "a", "x")); code != api.OK {
		t.Fatal(int(code))
	}
	wantTold(t, w, all(), []api.Series{series(rows(5, 2, "a", "x")...)})
	must(t, w, kind(api.StepClose))
	if w.Engine() != nil {
		t.Error("it is closed")
	}
}

func TestP24_2DiskIsACopy(t *testing.T) {
	w := fresh(t, 200)
	must(t, w, appends(rows(5, 2, "a", "x")...), times(api.StepFuse, 7))
	before, d := w.Disk(), w.Disk()
	if code := d.Write("x", 0, make([]byte, api.Size)); code != api.OK {
		t.Fatal(int(code))
	}
	d.Rot("m1.a", 0, 5, 1)
	d.Remove("w1.a")
	d.Fuse(0)
	wantSame(t, "what is done to a copy", w.Disk(), before)
	must(t, w, times(api.StepFuse, 100), appends(rows(7, 1, "a", "x")...))
	if before.Extents("w1.a") != 1 || w.Disk().Extents("w1.a") != 2 {
		t.Error("what is done to the disk is done to a copy")
	}
	wantWorst(t, w, 0)
}

func TestP24_2Worst(t *testing.T) {
	w := sixBlocks(t)
	wantWorst(t, w, 0)
	turned(t, w, "m7.a")
	wantWorst(t, w, 1)
	turned(t, w, "t7.b", "c1.0", "c2.1", "c3.2", "c4.p", "i1.a", "f1.b", "anchor.a") // one of each
	wantWorst(t, w, 1)
	turned(t, w, "f1.a")
	wantWorst(t, w, 2)
	turned(t, w, "f1.b") // as it was
	wantWorst(t, w, 1)
	turned(t, w, "c3.p")
	wantWorst(t, w, 2)
	turned(t, w, "c3.1")
	wantWorst(t, w, 3)
	turned(t, w, "c3.0")
	wantWorst(t, w, 4)
	turned(t, w, "c3.0", "c3.1", "c3.2", "c3.p")
	wantWorst(t, w, 1)
}

func TestP24_2WorstIsOfOneNumber(t *testing.T) {
	w := fresh(t, 200)
	must(t, w, appends(rows(5, 30, "a", "x")...), appends(rows(40, 30, "a", "x")...))
	if w.Disk().Extents("w1.a") < 10 {
		t.Fatal(w.Disk().Extents("w1.a"))
	}
	must(t, w, rots("w1.a", 0, 1, 1), rots("w1.b", 1, 1, 1), rots("w1.a", 2, 1, 1), rots("w1.a", 3, 1, 1))
	wantWorst(t, w, 1)
	must(t, w, rots("w1.b", 9, 1, 1))
	wantWorst(t, w, 1)
	must(t, w, rots("w1.a", 9, 1, 1))
	wantWorst(t, w, 2)
	must(t, w, kind(api.StepCrash))
	wantWorst(t, w, 2)
}

// What waits is no damage; a crash that tears it is.
func TestP24_2WorstOfACrash(t *testing.T) {
	w := fresh(t, 200)
	must(t, w, appends(rows(5, 1, "a", "x")...))
	d := w.Disk()
	d.Write("w1.a", 0, make([]byte, api.Size))
	d.Write("w1.b", 0, make([]byte, api.Size))
	x := &World{disk: d}
	wantWorst(t, x, 0)
	must(t, x, api.Step{Kind: api.StepCrash, Kept: []api.Kept{{Name: "w1.a", Bytes: 5}, {Name: "w1.b", Bytes: api.Size}}})
	wantWorst(t, x, 1)
	must(t, x, rots("w1.b", 0, 127, 255))
	wantWorst(t, x, 2)
}

// A file whose name ends like none of a pair or a stripe stands in no group; files that an engine leaves behind count as those that it has.
func TestP24_2WorstByName(t *testing.T) {
	for names, wanted := range map[[2]string]int{
		{"x.a", "x.b"}: 2, {"x.0", "x.p"}: 2, {"x.1", "x.2"}: 2, {"x.a", "y.b"}: 1, {"x.a", "x.0"}: 1, {"x.p", "x.b"}: 1,
		{"x", "y"}: 0, {"a", "b"}: 0, {"xa", "xb"}: 0, {"x.c", "x.3"}: 0, {"x.aa", "x.bb"}: 0, {"x.", "."}: 0, {"x.a.", "x.b."}: 0, {".a", ".b"}: 2, {"x.y.a", "x.y.b"}: 2, {"x.y.a", "x.z.b"}: 1, {"x.a", "x"}: 1,
	} {
		d, _ := disk.New(10)
		w := &World{disk: d}
		for _, name := range names {
			for i := range 3 {
				if code := d.Write(name, i, make([]byte, api.Size)); code != api.OK {
					t.Fatal(name, int(code))
				}
			}
			must(t, w, rots(name, 1, 3, 4))
		}
		if n := w.Worst(); n != wanted {
			t.Errorf("%q: Worst = %d, not %d", names, n, wanted)
		}
	}
}

func TestP24_2WorstOfWhatIsLeftBehind(t *testing.T) {
	w := fresh(t, 200)
	must(t, w, appends(rows(5, 3, "a", "x")...))
	for n := range 60 {
		x := &World{disk: w.Disk()}
		must(t, x, kind(api.StepOpen), times(api.StepFuse, n))
		want(t, x, api.ErrDead, kind(api.StepCut))
		must(t, x, kind(api.StepCrash))
		if d := x.Disk(); d.Extents("m1.b") > 0 && d.Extents("m2.b") > 0 {
			turned(t, x, "m1.a", "m1.b")
			wantWorst(t, x, 2)
			turned(t, x, "m1.b", "m2.b")
			wantWorst(t, x, 1)
			return
		}
	}
	t.Error("no manifest was left behind")
}

func TestP24_2WorstOfMany(t *testing.T) {
	w := fresh(t, api.MaxRoom)
	for i := range 20 {
		must(t, w, appends(rows(200*i, 200, "a", fmt.Sprint(i))...))
	}
	turned(t, w, "w1.a")
	wantWorst(t, w, 1)
	must(t, w, rots("w1.b", w.Disk().Extents("w1.b")-1, 0, 1))
	wantWorst(t, w, 2)
}
