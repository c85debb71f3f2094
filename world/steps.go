package world

import (
	"math"

	"dryrot/api"
	"dryrot/engine"
	"dryrot/fsck"
)

// maxTimes is how often one step has a thing done at most.
const maxTimes = 100

// step is what a step of a script does to a world, and what it comes to.
type step func(w *World, s api.Step) api.Reply

// stepOf is the step of a kind; nil, if there is none.
func stepOf(kind int) step {
	steps := [...]step{
		api.StepAppend: (*World).appendRows,
		api.StepDelete: (*World).deleteRange,
		api.StepKeep:   (*World).keep,
		api.StepCut:    (*World).cut,
		api.StepTick:   (*World).tick,
		api.StepScrub:  (*World).scrub,
		api.StepClose:  (*World).close,
		api.StepOpen:   (*World).open,
		api.StepFuse:   (*World).fuse,
		api.StepCrash:  (*World).crash,
		api.StepRot:    (*World).rot,
		api.StepFsck:   (*World).fsck,
		api.StepSelect: (*World).selectRange,
		api.StepNames:  (*World).names,
	}
	if kind < 0 || kind >= len(steps) {
		return nil
	}
	return steps[kind]
}

// asked is what tell tells of the engine; without an engine nobody can be asked.
func (w *World) asked(tell func(e *engine.Engine) api.Reply) api.Reply {
	if w.engine == nil {
		return api.Reply{Code: api.ErrArg}
	}
	return tell(w.engine)
}

// called is what a call of the engine comes to that answers an error alone.
func (w *World) called(call func(e *engine.Engine) api.Errno) api.Reply {
	return w.asked(func(e *engine.Engine) api.Reply { return api.Reply{Code: call(e)} })
}

// repeated is called, so many times, up to an error.
func (w *World) repeated(times int, call func(e *engine.Engine) api.Errno) api.Reply {
	return w.called(func(e *engine.Engine) api.Errno {
		for range min(max(times, 1), maxTimes) {
			if code := call(e); code != api.OK {
				return code
			}
		}
		return api.OK
	})
}

func (w *World) appendRows(s api.Step) api.Reply {
	return w.called(func(e *engine.Engine) api.Errno { return e.Append(s.Rows) })
}

func (w *World) deleteRange(s api.Step) api.Reply {
	return w.called(func(e *engine.Engine) api.Errno { return e.Delete(s.Matchers, s.From, s.To) })
}

func (w *World) keep(s api.Step) api.Reply {
	return w.called(func(e *engine.Engine) api.Errno { return e.Keep(s.N) })
}

func (w *World) cut(s api.Step) api.Reply { return w.repeated(s.N, (*engine.Engine).Cut) }

func (w *World) tick(s api.Step) api.Reply { return w.repeated(s.N, (*engine.Engine).Tick) }

func (w *World) scrub(s api.Step) api.Reply { return w.repeated(s.N, (*engine.Engine).Scrub) }

// close leaves no engine, whatever its Close answers: so one that has stopped makes room for another one, without a crash.
func (w *World) close(api.Step) api.Reply {
	reply := w.called((*engine.Engine).Close)
	w.engine = nil
	return reply
}

func (w *World) open(api.Step) api.Reply {
	if w.engine != nil {
		return api.Reply{Code: api.ErrArg}
	}
	e, code := engine.Open(w.disk)
	w.engine = e
	return api.Reply{Code: code}
}

func (w *World) fuse(s api.Step) api.Reply { return api.Reply{Code: w.disk.Fuse(s.N)} }

func (w *World) crash(s api.Step) api.Reply {
	w.engine = nil
	return api.Reply{Code: w.disk.Crash(s.Kept)}
}

func (w *World) rot(s api.Step) api.Reply {
	if s.To < 0 || s.To > math.MaxUint8 {
		return api.Reply{Code: api.ErrArg}
	}
	return api.Reply{Code: w.disk.Rot(s.Name, s.N, s.From, byte(s.To))}
}

func (w *World) fsck(api.Step) api.Reply {
	if w.engine != nil {
		return api.Reply{Code: api.ErrArg}
	}
	return api.Reply{Code: fsck.Run(w.disk)}
}

func (w *World) selectRange(s api.Step) api.Reply {
	return w.asked(func(e *engine.Engine) api.Reply {
		answer, code := e.Select(s.Matchers, s.From, s.To)
		return api.Reply{Code: code, Answer: answer}
	})
}

func (w *World) names(s api.Step) api.Reply {
	return w.asked(func(e *engine.Engine) api.Reply {
		var names []string
		var code api.Errno
		if s.Name == "" {
			names, code = e.Names()
		} else {
			names, code = e.Values(s.Name)
		}
		return api.Reply{Code: code, Names: names}
	})
}
