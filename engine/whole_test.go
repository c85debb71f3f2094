package engine

import (
	"fmt"
	"math/rand"
	"slices"
	"strings"
	"testing"

	"dryrot/anchor"
	"dryrot/api"
	"dryrot/disk"
	"dryrot/fsck"
	"dryrot/pair"
	"dryrot/scrub"
)

// play is a store that chance does things to, and the model of what it was told.
type play struct {
	t     *testing.T
	r     *rand.Rand
	d     *disk.Disk
	e     *Engine
	m     *model
	clock int
	log   []string
}

func newPlay(t *testing.T, seed int64, room int) *play {
	p := &play{t: t, r: rand.New(rand.NewSource(seed)), d: newDisk(t, room), m: newModel()}
	p.e = opened(t, p.d)
	return p
}

func (p *play) note(words ...any) { p.log = append(p.log, fmt.Sprint(words...)) }

func (p *play) fail(words ...any) {
	p.t.Helper()
	p.t.Fatal(fmt.Sprint(words...), "\n", strings.Join(p.log, "\n"))
}

func (p *play) someLabels() []api.Label {
	l := of("a", fmt.Sprint("x", p.r.Intn(4)))
	if p.r.Intn(2) == 0 {
		l = append(l, api.Label{Name: "b", Value: fmt.Sprint("y", p.r.Intn(3))})
	}
	return l
}

func (p *play) someMatchers() []api.Matcher {
	var m []api.Matcher
	for range p.r.Intn(3) {
		m = append(m, api.Matcher{Kind: 1 + p.r.Intn(4), Name: string(rune('a' + p.r.Intn(2))), Value: fmt.Sprint(string(rune('x'+p.r.Intn(2))), p.r.Intn(3))})
	}
	return m
}

func (p *play) someRange() (int, int) {
	from := p.clock - p.r.Intn(150)
	return from, from + p.r.Intn(100) - 5
}

func (p *play) someOp() api.Op {
	switch p.r.Intn(12) {
	case 0, 1:
		from, to := p.someRange()
		return api.Op{Kind: api.OpDelete, Matchers: p.someMatchers(), From: from, To: to}
	case 2:
		return api.Op{Kind: api.OpKeep, Keep: 50 + p.r.Intn(700)}
	}
	var l []api.Row
	for range 1 + p.r.Intn(25) {
		p.clock += p.r.Intn(3)
		l = append(l, api.Row{Labels: p.someLabels(), T: p.clock - p.r.Intn(20), V: uint64(p.r.Intn(5)) << (8 * p.r.Intn(8))})
	}
	return opAppend(l...)
}

// operate has an operation done by both; what it tells is the disk's error alone.
func (p *play) operate() api.Errno {
	o := p.someOp()
	var code api.Errno
	switch o.Kind {
	case api.OpAppend:
		code = p.e.Append(o.Rows)
	case api.OpDelete:
		code = p.e.Delete(o.Matchers, o.From, o.To)
	default:
		code = p.e.Keep(o.Keep)
	}
	p.note("operation ", o.Kind, ": ", int(code))
	if code == api.ErrDead {
		before := p.m.copy()
		p.m.do(o)
		p.reopen(before, p.m)
		return code
	}
	if code == api.ErrFull {
		return code
	}
	if wanted := p.m.do(o); wanted != code {
		p.fail("operation: ", int(code), ", not ", int(wanted))
	}
	return code
}

// keep has something done that changes no answer.
func (p *play) keep() api.Errno {
	name, call := "Scrub", p.e.Scrub
	switch p.r.Intn(4) {
	case 0:
		name, call = "Cut", p.e.Cut
	case 1, 2:
		name, call = "Tick", p.e.Tick
	}
	code := call()
	p.note(name, ": ", int(code))
	switch code {
	case api.ErrDead:
		p.reopen(p.m, p.m)
	case api.OK, api.ErrFull:
	default:
		p.fail(name, ": ", int(code))
	}
	return code
}

// crash has the disk lose what waits, but for some of it.
func (p *play) crash(tears bool) {
	var l []api.Kept
	for _, file := range p.d.List() {
		for i := range p.d.Extents(file) {
			bytes := api.Size * p.r.Intn(2)
			if tears && p.r.Intn(2) == 0 {
				bytes = p.r.Intn(api.Size)
			}
			l = append(l, api.Kept{Name: file, Index: i, Bytes: bytes})
		}
	}
	other := p.d.Copy()
	other.Crash(l)
	if worst(other) > 1 {
		p.d.Crash(nil)
	} else {
		p.d.Crash(l)
	}
	p.note("crash, ", p.d.Damaged())
}

// reopen opens a disk that has stopped: behind a crash, or without one. It tells one of two models, which is then the play's.
func (p *play) reopen(a, b *model) {
	p.t.Helper()
	if l := p.e.Status().Blocks; len(l) > 0 || told(p.e.Select(nil, 0, 1)) != api.ErrClosed {
		p.fail("it has not stopped")
	}
	for {
		if p.r.Intn(4) > 0 {
			p.crash(true)
		}
		p.d.Fuse(1 << 30)
		if p.r.Intn(3) == 0 {
			p.d.Fuse(p.r.Intn(20))
		}
		e, code := Open(p.d)
		p.note("Open: ", int(code))
		if code == api.OK {
			p.e = e
			break
		}
		if code != api.ErrDead {
			p.fail("Open: ", int(code))
		}
	}
	p.d.Fuse(1 << 30)
	told, code := p.e.Select(nil, least, greatest)
	if code != api.OK || len(told.Gaps) > 0 {
		p.fail("Select: ", int(code), told.Gaps)
	}
	p.m = b
	if sameSeries(told.Series, a.tell(nil, least, greatest)) && p.e.Status().Anchor.Newest == a.newest && p.e.Status().Anchor.Keep == a.keep {
		p.m = a
	}
}

// groupOf is what an extent's group is told by: the file's name without its end, and the number.
func groupOf(s api.Spot) api.Spot {
	stem, _, _ := strings.Cut(s.Name, ".")
	return api.Spot{Name: stem, Index: s.Index}
}

func damage(d *disk.Disk) map[api.Spot]int {
	bad := map[api.Spot]int{}
	for _, s := range d.Damaged() {
		bad[groupOf(s)]++
	}
	return bad
}

func worst(d *disk.Disk) int {
	most := 0
	for _, n := range damage(d) {
		most = max(most, n)
	}
	return most
}

// rot turns a byte of some extent; of a group of which one is damaged it turns none, unless any may be.
func (p *play) rot(any bool, files ...string) {
	if len(files) == 0 {
		files = p.d.List()
	}
	if len(files) == 0 {
		return
	}
	file := files[p.r.Intn(len(files))]
	if p.d.Extents(file) == 0 {
		return
	}
	s := api.Spot{Name: file, Index: p.r.Intn(p.d.Extents(file))}
	if !any && damage(p.d)[groupOf(s)] > 0 {
		return
	}
	p.d.Rot(s.Name, s.Index, p.r.Intn(api.Size), byte(1<<p.r.Intn(8)))
	p.note("rot of ", s)
}

// check holds what is told of some range against the model.
func (p *play) check() {
	p.t.Helper()
	m := p.someMatchers()
	from, to := p.someRange()
	if p.r.Intn(3) == 0 {
		m, from, to = nil, least, greatest
	}
	a, code := p.e.Select(m, from, to)
	if code != api.OK || !sameSeries(a.Series, p.m.tell(m, from, to, a.Gaps...)) {
		p.fail("Select(", m, ", ", from, ", ", to, ") = ", brief(a), ", ", int(code), ", not ", brief(p.m.tell(m, from, to, a.Gaps...)))
	}
	if worst(p.d) < 2 && len(a.Gaps) > 0 {
		p.fail("gaps: ", a.Gaps)
	}
	if s := p.e.Status().Anchor; s.Floor != p.m.floor || s.Newest != p.m.newest || s.Keep != p.m.keep {
		p.fail(fmt.Sprintf("%+v", s))
	}
	if len(a.Gaps) > 0 {
		return
	}
	if l, code := p.e.Names(); worst(p.d) < 2 && (code != api.OK || !slices.Equal(l, p.m.names())) {
		p.fail("Names = ", l, int(code))
	}
	if l, code := p.e.Values("b"); worst(p.d) < 2 && (code != api.OK || !slices.Equal(l, p.m.values("b"))) {
		p.fail("Values = ", l, int(code))
	}
}

// P1: as long as no group has more than one damaged extent, all is told, whatever stops.
func TestP1OneOfEachGroup(t *testing.T) {
	for seed := range int64(50) {
		p := newPlay(t, seed, 90+int(seed*seed))
		for range 120 {
			if p.r.Intn(6) == 0 {
				p.d.Fuse(p.r.Intn(60))
			}
			for range p.r.Intn(4) {
				p.rot(false)
			}
			full := api.OK
			if p.r.Intn(3) > 0 {
				full = p.operate()
			} else {
				full = p.keep()
			}
			if full == api.ErrFull {
				p.e.Cut()
				p.e.Tick()
				if told(p.e.Select(nil, 0, 1)) == api.ErrClosed {
					p.reopen(p.m, p.m)
				}
			}
			p.check()
			if p.r.Intn(15) == 0 {
				p.e.Close()
				p.e = nil
				p.d.Fuse(1 << 30)
				p.e = opened(t, p.d)
				p.check()
			}
		}
	}
}

// P2: whatever is damaged, outside of the gaps all is told; opening tells one of its errors, or succeeds.
func TestP2AnyNumber(t *testing.T) {
	gaps, refused := 0, map[api.Errno]int{}
	for seed := range int64(50) {
		p := newPlay(t, seed, 3000)
		for range 60 {
			for range p.r.Intn(8) {
				p.rot(true)
			}
			if p.r.Intn(3) > 0 {
				p.operate()
			} else {
				p.keep()
			}
			p.check()
			a, _ := p.e.Select(nil, least, greatest)
			gaps += len(a.Gaps)
			e, code := Open(p.d.Copy())
			switch code {
			case api.OK:
				if b, f := e.Select(nil, least, greatest); f != api.OK || !sameSeries(a.Series, b.Series) || !slices.Equal(a.Gaps, b.Gaps) {
					p.fail("opened: ", brief(b), ", not ", brief(a))
				}
			case api.ErrAnchor, api.ErrManifest, api.ErrTombs, api.ErrWal:
				refused[code]++
				if worst(p.d) < 2 {
					p.fail("Open: ", int(code))
				}
			default:
				p.fail("Open: ", int(code))
			}
		}
	}
	if gaps == 0 || len(refused) < 4 {
		t.Error(gaps, refused)
	}
}

// P3: behind enough scrubs no group that counts has one damaged extent, and what can't be put right is in the ledger.
func TestP3Scrubbing(t *testing.T) {
	lost := 0
	for seed := range int64(150) {
		p := newPlay(t, seed, 5000)
		for range 40 {
			if p.r.Intn(3) > 0 {
				p.operate()
			} else {
				p.keep()
			}
		}
		many := p.r.Intn(2) == 0
		for range p.r.Intn(60) {
			p.rot(many)
		}
		once := damage(p.d)
		for i := 0; i < 3*p.e.Status().Groups+8; i++ {
			must(t, "Scrub", p.e.Scrub())
		}
		s := p.e.Status()
		left := damage(p.d)
		for _, g := range scrub.Groups(p.d, s.Anchor, s.Blocks) {
			spot := api.Spot{Name: g.Name, Index: g.Index}
			if once[spot] == 1 && left[spot] > 0 {
				p.fail(g, " is still bad")
			}
			if left[spot] == 0 {
				continue
			}
			lost++
			if g.Kind != api.GroupStripe && g.Name[0] != 'i' {
				p.fail(g, " could be put right")
			}
			if g.Kind == api.GroupStripe && len(scrub.Note(s.Ledger, scrub.Spots(g), true)) != len(s.Ledger) {
				p.fail(g, " is not in the ledger: ", s.Ledger)
			}
		}
		if !many && len(left) > 0 {
			p.fail("left: ", left)
		}
		p.check()
	}
	if lost == 0 {
		t.Error("nothing was lost")
	}
}

// P4: manifest and indexes, damaged in any way, are reckoned anew, even by a run that stops on its way.
func TestP4Fsck(t *testing.T) {
	for seed := range int64(100) {
		p := newPlay(t, seed, 5000)
		for range 40 {
			if p.r.Intn(5) == 0 {
				p.d.Fuse(p.r.Intn(40))
			}
			if p.r.Intn(3) > 0 {
				p.operate()
			} else {
				p.keep()
			}
		}
		p.d.Fuse(1 << 30)
		must(t, "Run", fsck.Run(p.d))
		wantAll(t, "nothing is damaged", opened(t, p.d), p.m.tell(nil, least, greatest))
		p.e = opened(t, p.d)
		s := p.e.Status()
		manifest, _ := anchor.Names(s.Anchor.Gen)
		files := pairFiles(manifest)
		for _, f := range s.Blocks {
			files = append(files, pairFiles(indexName(f.Number))...)
		}
		for range p.r.Intn(40) {
			p.rot(true, files...)
		}
		if p.r.Intn(3) == 0 {
			pair.Drop(p.d, manifest)
		}
		if p.r.Intn(3) == 0 {
			p.d.Remove(files[p.r.Intn(len(files))])
		}
		for {
			p.d.Fuse(p.r.Intn(20))
			code := fsck.Run(p.d)
			if p.r.Intn(2) == 0 {
				p.crash(true)
			}
			p.d.Fuse(1 << 30)
			if code == api.OK {
				break
			}
			if code != api.ErrDead {
				p.fail("Run: ", int(code))
			}
		}
		p.e = opened(t, p.d)
		wantAll(t, "reckoned anew", p.e, p.m.tell(nil, least, greatest))
		for _, f := range s.Blocks {
			if i := slices.IndexFunc(p.e.Status().Blocks, func(g api.Footer) bool { return g.Number == f.Number }); i < 0 && f.Max >= s.Anchor.Floor {
				p.fail("block ", f.Number, " is gone")
			}
		}
	}
}
