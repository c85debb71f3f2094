package world

import (
	"fmt"
	"math"
	"reflect"
	"strings"
	"testing"

	"dryrot/anchor"
	"dryrot/api"
	"dryrot/model"
	"dryrot/scrub"
)

// play is a world that chance does things to, and the model of what it was told.
type play struct {
	*chance
	t          *testing.T
	w          *World
	m          *model.Model
	operations int
	log        []string
}

func newPlay(t *testing.T, seed int64, room int) *play {
	return &play{chance: newChance(seed), t: t, w: fresh(t, room), m: model.New()}
}

func (p *play) fail(words ...any) {
	p.t.Helper()
	p.t.Fatal(fmt.Sprint(words...), "\n", strings.Join(p.log, "\n"))
}

func (p *play) do(s api.Step) api.Reply {
	r := p.w.Do(s)
	p.log = append(p.log, fmt.Sprint(brief(s), " -> ", int(r.Code)))
	return r
}

// opOf is the operation of a step.
func opOf(s api.Step) api.Op {
	switch s.Kind {
	case api.StepAppend:
		return api.Op{Kind: api.OpAppend, Rows: s.Rows}
	case api.StepDelete:
		return api.Op{Kind: api.OpDelete, Matchers: s.Matchers, From: s.From, To: s.To}
	}
	return api.Op{Kind: api.OpKeep, Keep: s.N}
}

// told is what a question comes to over the model, with gaps.
func (p *play) told(s api.Step, gaps []api.Gap) api.Reply {
	switch {
	case s.Kind == api.StepSelect:
		l, code := p.m.Select(s.Matchers, s.From, s.To)
		return api.Reply{Code: code, Answer: api.Answer{Series: model.Outside(l, gaps), Gaps: gaps}}
	case s.Name != "":
		return api.Reply{Names: p.m.Values(s.Name)}
	}
	return api.Reply{Names: p.m.Names()}
}

// check holds a question's reply against the model's; inside of gaps nothing is told, and there are none without two damaged extents in a group.
func (p *play) check(s api.Step) {
	p.t.Helper()
	r := p.w.Do(s)
	if r.Code == api.ErrDegraded && s.Kind == api.StepNames && p.w.Worst() > 1 && len(p.w.Do(all()).Answer.Gaps) > 0 {
		return
	}
	if wanted := p.told(s, r.Answer.Gaps); !sameReply(r, wanted) {
		p.fail(brief(s), ": ", brief(r), ", not ", brief(wanted))
	}
	if len(r.Answer.Gaps) > 0 && p.w.Worst() < 2 {
		p.fail("gaps: ", r.Answer.Gaps)
	}
	if floor := p.w.Engine().Status().Anchor.Floor; floor != p.m.Floor() {
		p.fail("Floor: ", floor, ", not ", p.m.Floor())
	}
}

func (p *play) checkAll() {
	p.t.Helper()
	for _, s := range []api.Step{all(), names(""), names("a"), names("b"), p.question()} {
		p.check(s)
	}
}

// operate has an operation done by both; on a disk that stops on the way, what opening tells says whether it was done.
func (p *play) operate(tears bool) api.Errno {
	s := p.operation()
	code := p.do(s).Code
	if code == api.ErrFull {
		return code
	}
	ahead := p.m.Copy()
	if wanted := p.m.Do(opOf(s)); code != wanted && code != api.ErrDead {
		p.fail("operation: ", int(code), ", not ", int(wanted))
	}
	if code == api.ErrDead {
		if !p.reopen(tears) {
			return code
		}
		switch lsn := p.w.Engine().Status().Anchor.LSN; lsn {
		case p.operations:
			p.m = ahead
		case p.operations + 1:
			p.operations++
		default:
			p.fail("LSN: ", lsn, " behind ", p.operations, " operations")
		}
		return code
	}
	if code == api.OK {
		p.operations++
	}
	return code
}

// keepUp has something done that changes no answer.
func (p *play) keepUp(tears bool) api.Errno {
	s := p.upkeep()
	code := p.do(s).Code
	switch code {
	case api.OK, api.ErrFull:
	case api.ErrDead:
		p.reopen(tears)
	default:
		p.fail("upkeep: ", int(code))
	}
	return code
}

// crash has the disk lose what waits, but for some of it; where that would damage two extents of one group, all of it.
func (p *play) crash(tears bool) {
	s := api.Step{Kind: api.StepCrash, Kept: p.kept(p.w.Disk(), tears)}
	other := &World{disk: p.w.Disk()}
	other.Do(s)
	if other.Worst() > 1 && p.w.Worst() < 2 {
		s.Kept = nil
	}
	p.do(s)
}

// reopen opens a disk that has stopped, behind a crash, or behind Close; it may stop again on its way. It tells whether there is an engine then, which there must be without two damaged extents in a group.
func (p *play) reopen(tears bool) bool {
	p.t.Helper()
	if code := p.do(all()).Code; code != api.ErrClosed {
		p.fail("it has not stopped: ", int(code))
	}
	p.do(kind(api.StepClose))
	return p.open(tears)
}

func (p *play) open(tears bool) bool {
	p.t.Helper()
	for {
		if p.Intn(4) > 0 {
			p.crash(tears)
		}
		p.do(times(api.StepFuse, math.MaxInt32))
		if p.Intn(3) == 0 {
			p.do(times(api.StepFuse, p.Intn(20)))
		}
		code := p.do(kind(api.StepOpen)).Code
		if code == api.ErrDead {
			continue
		}
		p.do(times(api.StepFuse, math.MaxInt32))
		if code != api.OK && p.w.Worst() < 2 {
			p.fail("Open: ", int(code))
		}
		return code == api.OK
	}
}

// rotOne turns a byte of an extent, unless two of its group would be damaged then.
func (p *play) rotOne() {
	s := p.rot(p.w.Disk())
	other := &World{disk: p.w.Disk()}
	other.Do(s)
	if other.Worst() < 2 {
		p.do(s)
	}
}

// P1: as long as no group has more than one damaged extent, all is told, whatever stops.
func TestP1OneOfEachGroup(t *testing.T) {
	stops := 0
	for seed := range int64(25) {
		p := newPlay(t, seed, 90+int(4*seed*seed))
		for range 100 {
			if p.Intn(6) == 0 {
				p.do(times(api.StepFuse, p.Intn(60)))
			}
			for range p.Intn(4) {
				p.rotOne()
			}
			code := api.OK
			switch p.Intn(20) {
			case 0:
				p.do(kind(api.StepClose))
				p.do(times(api.StepFuse, math.MaxInt32))
				p.open(true)
			case 1:
				p.crash(true)
				p.open(true)
			case 2, 3, 4, 5, 6:
				code = p.keepUp(true)
			default:
				code = p.operate(true)
			}
			if code == api.ErrFull {
				for _, k := range []int{api.StepCut, api.StepTick} {
					if p.do(kind(k)).Code == api.ErrDead {
						p.reopen(true)
					}
				}
			}
			if code == api.ErrDead {
				stops++
			}
			if p.w.Worst() > 1 {
				p.fail("damaged: ", p.w.Disk().Damaged())
			}
			p.checkAll()
		}
	}
	if stops < 100 {
		t.Error(stops, " stops")
	}
}

// P2: whatever is damaged, outside of the gaps all is told, and nothing inside of them; opening tells one of its errors, or succeeds.
func TestP2AnyNumber(t *testing.T) {
	gaps, codes := 0, map[api.Errno]int{}
	for seed := range int64(25) {
		p := newPlay(t, seed, 3000)
		for range 60 {
			for range p.Intn(6) {
				p.do(p.rot(p.w.Disk()))
			}
			if p.Intn(3) > 0 {
				p.operate(false)
			} else {
				p.keepUp(false)
			}
			p.checkAll()
			a := p.w.Do(all())
			gaps += len(a.Answer.Gaps)
			other := &World{disk: p.w.Disk()}
			code := other.Do(kind(api.StepOpen)).Code
			codes[code]++
			switch code {
			case api.OK:
				if b := other.Do(all()); !sameReply(a, b) {
					p.fail("opened: ", brief(b), ", not ", brief(a))
				}
			case api.ErrAnchor, api.ErrManifest, api.ErrTombs, api.ErrWal:
				if p.w.Worst() < 2 {
					p.fail("Open: ", int(code))
				}
			default:
				p.fail("Open: ", int(code))
			}
		}
	}
	if gaps == 0 || len(codes) < 5 {
		t.Error(gaps, codes)
	}
}

// P2, with crashes that tear and stops between: what opens goes on as the model does.
func TestP2BehindStops(t *testing.T) {
	gaps, ends := 0, map[api.Errno]int{}
	for seed := range int64(120) {
		p := newPlay(t, seed, 3000)
		for range 60 {
			if p.Intn(5) == 0 {
				p.do(times(api.StepFuse, p.Intn(60)))
			}
			for range p.Intn(4) {
				p.do(p.rot(p.w.Disk()))
			}
			if p.Intn(3) > 0 {
				p.operate(true)
			} else {
				p.keepUp(true)
			}
			if p.w.Engine() == nil {
				ends[p.do(kind(api.StepOpen)).Code]++
				break
			}
			p.checkAll()
			gaps += len(p.w.Do(all()).Answer.Gaps)
		}
	}
	for _, code := range []api.Errno{api.ErrAnchor, api.ErrManifest, api.ErrTombs, api.ErrWal} {
		if ends[code] == 0 {
			t.Errorf("none ended by %d: %v", int(code), ends)
		}
		delete(ends, code)
	}
	if gaps == 0 || len(ends) > 0 {
		t.Error(gaps, ends)
	}
}

// lively has a world come to blocks, a log and deletes.
func (p *play) lively(stops bool) {
	for range 40 {
		if stops && p.Intn(5) == 0 {
			p.do(times(api.StepFuse, p.Intn(40)))
		}
		if p.Intn(3) > 0 {
			p.operate(true)
		} else {
			p.keepUp(true)
		}
	}
	p.do(times(api.StepFuse, math.MaxInt32))
}

// damage is how many extents of each group are damaged.
func (p *play) damage() map[api.Group]int {
	bad := map[api.Group]int{}
	for _, s := range p.w.Disk().Damaged() {
		bad[groupOf(s)]++
	}
	return bad
}

// P3: behind enough scrubs no group that counts has one damaged extent, and what can't be put right is in the ledger.
func TestP3Scrubbing(t *testing.T) {
	lost := 0
	for seed := range int64(80) {
		p := newPlay(t, seed, 5000)
		p.lively(false)
		for range p.Intn(60) {
			p.do(p.rot(p.w.Disk()))
		}
		once := p.damage()
		for left := 3*p.w.Engine().Status().Groups + 8; left > 0; left -= 100 {
			if code := p.do(times(api.StepScrub, min(left, 100))).Code; code != api.OK {
				p.fail("Scrub: ", int(code))
			}
		}
		s := p.w.Engine().Status()
		left := p.damage()
		for _, g := range scrub.Groups(p.w.Disk(), s.Anchor, s.Blocks) {
			plain := g
			plain.Gen = 0
			if left[plain] == 0 {
				continue
			}
			lost++
			if once[plain] == 1 {
				p.fail(g, " is still bad")
			}
			if g.Kind == api.GroupStripe && len(scrub.Note(s.Ledger, scrub.Spots(g), true)) != len(s.Ledger) {
				p.fail(g, " is not in the ledger: ", s.Ledger)
			}
		}
		p.checkAll()
	}
	if lost == 0 {
		t.Error("nothing was lost")
	}
}

// P4: manifest and indexes, damaged in any way, are reckoned anew, even by a run that stops on its way.
func TestP4Fsck(t *testing.T) {
	refused := 0
	for seed := range int64(80) {
		p := newPlay(t, seed, 5000)
		p.lively(true)
		before := p.w.Do(all())
		s := p.w.Engine().Status()
		p.do(kind(api.StepClose))
		p.do(kind(api.StepFsck))
		if code := p.do(kind(api.StepOpen)).Code; code != api.OK || !sameReply(p.w.Do(all()), before) {
			p.fail("nothing is damaged: ", int(code), brief(p.w.Do(all())), ", not ", brief(before))
		}
		p.do(kind(api.StepClose))
		manifest, _ := anchor.Names(s.Anchor.Gen)
		files := []string{manifest + ".a", manifest + ".b"}
		for _, f := range s.Blocks {
			files = append(files, fmt.Sprint("i", f.Number, ".a"), fmt.Sprint("i", f.Number, ".b"))
		}
		for range p.Intn(40) {
			file := files[p.Intn(len(files))]
			p.do(rots(file, p.Intn(p.w.Disk().Extents(file)), p.Intn(api.Size), 1+p.Intn(255)))
		}
		if opens := (&World{disk: p.w.Disk()}); opens.Do(kind(api.StepOpen)).Code == api.ErrManifest {
			refused++
		}
		for code := api.ErrDead; code != api.OK; {
			p.do(times(api.StepFuse, p.Intn(20)))
			if code = p.do(kind(api.StepFsck)).Code; code != api.OK && code != api.ErrDead {
				p.fail("Fsck: ", int(code))
			}
			if p.Intn(2) == 0 {
				p.do(api.Step{Kind: api.StepCrash, Kept: p.kept(p.w.Disk(), true)})
			}
		}
		p.do(times(api.StepFuse, math.MaxInt32))
		if code := p.do(kind(api.StepOpen)).Code; code != api.OK {
			p.fail("Open: ", int(code))
		}
		p.checkAll()
	}
	if refused == 0 {
		t.Error("no manifest was lost")
	}
}

// P5: every step tells a reply, and what is refused changes nothing.
func TestP5EveryInput(t *testing.T) {
	codes := map[api.Errno]int{}
	for seed := range int64(50) {
		p := newPlay(t, seed, 6+int(2*seed*seed))
		for range 150 {
			s := p.wildStep(p.w.Disk())
			if p.Intn(3) == 0 {
				s = p.anyStep(p.w.Disk())
			}
			d, e := p.w.Disk(), p.w.Engine()
			before, answer := e.Status(), p.w.Do(all())
			code := p.do(s).Code
			codes[code]++
			refused := code == api.ErrArg || code == api.ErrOld || code == api.ErrFile || code == api.ErrDegraded || code == api.ErrFull && s.Kind < api.StepCut
			if !refused {
				continue
			}
			wantSame(t, "refused", p.w.Disk(), d)
			if p.w.Engine() != e || !reflect.DeepEqual(e.Status(), before) || !sameReply(p.w.Do(all()), answer) {
				p.fail(brief(s), ": it has changed: ", brief(e.Status()), ", not ", brief(before))
			}
			if t.Failed() {
				p.fail(brief(s))
			}
		}
	}
	for _, code := range []api.Errno{api.OK, api.ErrArg, api.ErrOld, api.ErrFile, api.ErrFull, api.ErrDead, api.ErrClosed} {
		if codes[code] == 0 {
			t.Errorf("no reply was %d: %v", int(code), codes)
		}
	}
}
