package engine

import (
	"fmt"
	"maps"
	"math"
	"reflect"
	"slices"
	"testing"

	"dryrot/anchor"
	"dryrot/api"
	"dryrot/block"
	"dryrot/disk"
	"dryrot/fsck"
	"dryrot/labels"
	"dryrot/match"
	"dryrot/pair"
	"dryrot/plan"
	"dryrot/record"
	"dryrot/tomb"
	"dryrot/wal"
)

const (
	least    = math.MinInt
	greatest = math.MaxInt
)

func newDisk(t *testing.T, room int) *disk.Disk {
	t.Helper()
	d, e := disk.New(room)
	if e != api.OK {
		t.Fatal(e)
	}
	return d
}

func opened(t *testing.T, d *disk.Disk) *Engine {
	t.Helper()
	e, code := Open(d)
	if code != api.OK {
		t.Fatalf("Open: %d", int(code))
	}
	return e
}

// fresh is a new store, and its disk.
func fresh(t *testing.T, room int) (*Engine, *disk.Disk) {
	t.Helper()
	d := newDisk(t, room)
	return opened(t, d), d
}

func want(t *testing.T, what string, got, wanted api.Errno) {
	t.Helper()
	if got != wanted {
		t.Errorf("%s: %d, not %d", what, int(got), int(wanted))
	}
}

func must(t *testing.T, what string, got api.Errno) {
	t.Helper()
	if got != api.OK {
		t.Fatalf("%s: %d", what, int(got))
	}
}

func brief(x any) string { return fmt.Sprintf("%.400s", fmt.Sprintf("%+v", x)) }

func wantSame(t *testing.T, what string, d, wanted *disk.Disk) {
	t.Helper()
	if !reflect.DeepEqual(d, wanted) {
		t.Errorf("%s: the disk is another one: %s, not %s", what, brief(d.List()), brief(wanted.List()))
	}
}

// of is labels by name, value, name, value ..
func of(words ...string) []api.Label {
	var l []api.Label
	for i := 0; i < len(words); i += 2 {
		l = append(l, api.Label{Name: words[i], Value: words[i+1]})
	}
	return l
}

func row(at int, v uint64, words ...string) api.Row {
	return api.Row{Labels: of(words...), T: at, V: v}
}

// rows is n rows of one series from a time on, each with a value of its own.
func rows(from, n int, words ...string) []api.Row {
	var l []api.Row
	for i := range n {
		l = append(l, row(from+i, uint64(from+i)*0x9e3779b97f4a7c15, words...))
	}
	return l
}

func is(name, value string) []api.Matcher {
	return []api.Matcher{{Kind: api.Is, Name: name, Value: value}}
}

func sameSeries(a, b []api.Series) bool {
	return slices.EqualFunc(a, b, func(x, y api.Series) bool {
		return slices.Equal(x.Labels, y.Labels) && slices.Equal(x.Samples, y.Samples)
	})
}

// seriesOf is rows as series.
func seriesOf(l ...api.Row) []api.Series {
	m := newModel()
	for batch := range slices.Chunk(l, api.MaxBatch) {
		m.do(opAppend(batch...))
	}
	return m.tell(nil, least, greatest)
}

func wantTold(t *testing.T, what string, e *Engine, m []api.Matcher, from, to int, wanted []api.Series, gaps ...api.Gap) {
	t.Helper()
	a, code := e.Select(m, from, to)
	if code != api.OK || !sameSeries(a.Series, wanted) || !slices.Equal(a.Gaps, gaps) {
		t.Errorf("%s: Select(%v, %d, %d) = %s, %d, not %s with gaps %v", what, m, from, to, brief(a), int(code), brief(wanted), gaps)
	}
}

func wantAll(t *testing.T, what string, e *Engine, wanted []api.Series, gaps ...api.Gap) {
	t.Helper()
	wantTold(t, what, e, nil, least, greatest, wanted, gaps...)
}

// calls is all calls of an engine that answer an error, with arguments that may be.
func calls() map[string]func(e *Engine) api.Errno {
	return map[string]func(e *Engine) api.Errno{
		"Append": func(e *Engine) api.Errno { return e.Append([]api.Row{row(1<<40, 1, "a", "x")}) },
		"Delete": func(e *Engine) api.Errno { return e.Delete(nil, 0, 0) },
		"Keep":   func(e *Engine) api.Errno { return e.Keep(0) },
		"Select": func(e *Engine) api.Errno { return told(e.Select(nil, 0, 1)) },
		"Names":  func(e *Engine) api.Errno { return words(e.Names()) },
		"Values": func(e *Engine) api.Errno { return words(e.Values("a")) },
		"Cut":    func(e *Engine) api.Errno { return e.Cut() },
		"Tick":   func(e *Engine) api.Errno { return e.Tick() },
		"Scrub":  func(e *Engine) api.Errno { return e.Scrub() },
		"Close":  func(e *Engine) api.Errno { return e.Close() },
	}
}

// told is the error of an answer; -1, if there is something beside an error.
func told(a api.Answer, code api.Errno) api.Errno {
	if code != api.OK && len(a.Series)+len(a.Gaps) > 0 {
		return -1
	}
	return code
}

func words(l []string, code api.Errno) api.Errno {
	if code != api.OK && len(l) > 0 {
		return -1
	}
	return code
}

// wantEach has all calls answer an error, with right and wrong arguments.
func wantEach(t *testing.T, what string, e *Engine, wanted api.Errno) {
	t.Helper()
	for name, call := range calls() {
		want(t, what+": "+name, call(e), wanted)
	}
	want(t, what+": Append", e.Append(nil), wanted)
	want(t, what+": Delete", e.Delete([]api.Matcher{{}}, 0, 0), wanted)
	want(t, what+": Keep", e.Keep(-1), wanted)
	want(t, what+": Select", told(e.Select([]api.Matcher{{}}, 0, 1)), wanted)
	want(t, what+": Select", told(e.Select(nil, 1, 0)), wanted)
	if s := e.Status(); !reflect.DeepEqual(s, api.Status{}) {
		t.Errorf("%s: Status = %s", what, brief(s))
	}
}

// diskStep is what changes a disk.
type diskStep = func(d *disk.Disk) api.Errno

// wantSteps holds a call against steps, on a disk that stops behind each number of changes; the engine that it stops tells nothing more, the other one is what opening tells.
func wantSteps(t *testing.T, what string, d *disk.Disk, call func(e *Engine) api.Errno, steps ...diskStep) *Engine {
	t.Helper()
	return wantStepsOf(t, what, d, func(*disk.Disk) {}, call, steps...)
}

// wantStepsOf is wantSteps of a disk that something happens to while an engine is on it.
func wantStepsOf(t *testing.T, what string, d *disk.Disk, happens func(d *disk.Disk), call func(e *Engine) api.Errno, steps ...diskStep) *Engine {
	t.Helper()
	for n := 0; ; n++ {
		got := d.Copy()
		e := opened(t, got)
		happens(got)
		wanted := got.Copy()
		got.Fuse(n)
		wanted.Fuse(n)
		code := api.OK
		for _, s := range steps {
			if code = s(wanted); code != api.OK {
				break
			}
		}
		what := fmt.Sprint(what, ", fuse of ", n)
		want(t, what, call(e), code)
		wantSame(t, what, got, wanted)
		if code != api.ErrDead {
			wantMemory(t, what, e, got)
			got.Fuse(1 << 30)
			return e
		}
		wantEach(t, what, e, api.ErrClosed)
	}
}

// wantMemory holds an engine against what opening its disk tells.
func wantMemory(t *testing.T, what string, e *Engine, d *disk.Disk) {
	t.Helper()
	d = d.Copy()
	d.Fuse(1 << 30)
	other := opened(t, d)
	got, wanted := e.Status(), other.Status()
	got.Deletes, wanted.Deletes = nil, nil // those of a log that a commit left are read twice
	if !reflect.DeepEqual(blank(got), blank(wanted)) {
		t.Errorf("%s: Status = %s, not %s", what, brief(got), brief(wanted))
	}
	a, _ := e.Select(nil, least, greatest)
	b, _ := other.Select(nil, least, greatest)
	if !sameSeries(a.Series, b.Series) || !slices.Equal(a.Gaps, b.Gaps) {
		t.Errorf("%s: told is %s, not %s", what, brief(a), brief(b))
	}
}

// blank is a status whose lists are nil if they are empty.
func blank(s api.Status) api.Status {
	s.Blocks = append([]api.Footer(nil), s.Blocks...)
	s.Deletes = append([]api.Delete(nil), s.Deletes...)
	s.Ledger = append([]api.Spot(nil), s.Ledger...)
	return s
}

// saving is anchor.Save of the disk's anchor as it is but for what turn does.
func saving(turn func(a *api.Anchor)) diskStep {
	return func(d *disk.Disk) api.Errno {
		a, code := anchor.Load(d)
		if code != api.OK {
			return code
		}
		turn(&a)
		_, code = anchor.Save(d, a)
		return code
	}
}

func storing(name string, gen int, b []byte) diskStep {
	return func(d *disk.Disk) api.Errno { return pair.Store(d, name, gen, b) }
}

func droppingPair(names ...string) diskStep {
	return func(d *disk.Disk) api.Errno {
		for _, name := range names {
			if code := pair.Drop(d, name); code != api.OK {
				return code
			}
		}
		return api.OK
	}
}

func droppingBlocks(numbers ...int) diskStep {
	return func(d *disk.Disk) api.Errno {
		for _, n := range numbers {
			if code := block.Drop(d, n); code != api.OK {
				return code
			}
		}
		return api.OK
	}
}

func writing(f api.Footer, l []api.Series) diskStep {
	return func(d *disk.Disk) api.Errno { return block.Write(d, f, l) }
}

func appending(segment, at, lsn int, o api.Op) diskStep {
	return func(d *disk.Disk) api.Errno {
		rec, _ := record.Encode(o)
		_, code := wal.Append(d, segment, at, lsn, rec)
		return code
	}
}

func tombsOf(t *testing.T, l []api.Delete, ledger []api.Spot) []byte {
	t.Helper()
	b, code := tomb.Encode(l, ledger)
	must(t, "tomb.Encode", code)
	return b
}

func manifestOf(t *testing.T, l ...api.Footer) []byte {
	t.Helper()
	b, code := fsck.Manifest(l)
	must(t, "fsck.Manifest", code)
	return b
}

func made(t *testing.T, l []api.Series, number, gen, level, rank int, parents ...int) api.Footer {
	t.Helper()
	f, code := block.Make(l, number, gen, level, rank, parents)
	must(t, "block.Make", code)
	return f
}

func recordExtents(t *testing.T, o api.Op) int {
	t.Helper()
	b, code := record.Encode(o)
	must(t, "record.Encode", code)
	return wal.Need(len(b))
}

func opAppend(l ...api.Row) api.Op { return api.Op{Kind: api.OpAppend, Rows: l} }

// turn has a byte of each extent of files turned.
func turn(d *disk.Disk, files ...string) {
	for _, file := range files {
		for i := range d.Extents(file) {
			d.Rot(file, i, 20+i%90, 0x41)
		}
	}
}

// fill has a disk that so many extents are left of.
func fill(t *testing.T, d *disk.Disk, free int) {
	t.Helper()
	for i := 0; d.Free() > free; i++ {
		must(t, "Write", d.Write("w1.z", i, make([]byte, api.Size)))
	}
}

// model is what a store means, said plainly.
type model struct {
	series              map[string]map[int]uint64
	floor, newest, keep int
}

func newModel() *model {
	return &model{series: map[string]map[int]uint64{}, floor: least, newest: least}
}

func (m *model) copy() *model {
	other := *m
	other.series = map[string]map[int]uint64{}
	for key, samples := range m.series {
		other.series[key] = maps.Clone(samples)
	}
	return &other
}

func (m *model) do(o api.Op) api.Errno {
	if !record.Can(o) {
		return api.ErrArg
	}
	switch o.Kind {
	case api.OpAppend:
		for _, r := range o.Rows {
			if r.T < m.floor {
				return api.ErrOld
			}
		}
		for _, r := range o.Rows {
			key, _ := labels.Text(r.Labels)
			if m.series[key] == nil {
				m.series[key] = map[int]uint64{}
			}
			m.series[key][r.T] = r.V
			m.newest = max(m.newest, r.T)
		}
		m.floor = plan.Floor(m.floor, m.newest, m.keep)
	case api.OpDelete:
		for key, samples := range m.series {
			l, _ := labels.Parse(key)
			for at := range samples {
				if at >= o.From && at <= o.To && match.All(o.Matchers, l) {
					delete(samples, at)
				}
			}
		}
	case api.OpKeep:
		m.keep = o.Keep
		m.floor = plan.Floor(m.floor, m.newest, m.keep)
	}
	for _, samples := range m.series {
		maps.DeleteFunc(samples, func(at int, _ uint64) bool { return at < m.floor })
	}
	return api.OK
}

func (m *model) tell(l []api.Matcher, from, to int, gaps ...api.Gap) []api.Series {
	var told []api.Series
	for key, samples := range m.series {
		s := api.Series{}
		s.Labels, _ = labels.Parse(key)
		for _, at := range slices.Sorted(maps.Keys(samples)) {
			hidden := slices.ContainsFunc(gaps, func(g api.Gap) bool { return g.From <= at && at <= g.To })
			if at >= from && at <= to && !hidden {
				s.Samples = append(s.Samples, api.Sample{T: at, V: samples[at]})
			}
		}
		if len(s.Samples) > 0 && match.All(l, s.Labels) {
			told = append(told, s)
		}
	}
	slices.SortFunc(told, func(a, b api.Series) int { return labels.Compare(a.Labels, b.Labels) })
	return told
}

func (m *model) names() []string {
	var l []string
	for _, s := range m.tell(nil, least, greatest) {
		for _, label := range s.Labels {
			l = append(l, label.Name)
		}
	}
	slices.Sort(l)
	return slices.Compact(l)
}

func (m *model) values(name string) []string {
	var l []string
	for _, s := range m.tell(nil, least, greatest) {
		if v := labels.Get(s.Labels, name); v != "" {
			l = append(l, v)
		}
	}
	slices.Sort(l)
	return slices.Compact(l)
}
