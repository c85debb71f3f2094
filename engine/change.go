package engine

import (
	"errors"

	"dryrot/api"
	"dryrot/disk"
)

// errBehind is what an error is that came behind the first thing that was written: memory does not say any more what stands on the disk.
var errBehind = errors.New("engine: a change of the disk was refused on its way")

// behind is an error of the disk that came so.
type behind struct{ cause error }

func (b behind) Error() string { return errBehind.Error() + ": " + b.cause.Error() }

func (b behind) Unwrap() error { return b.cause }

func (b behind) Is(target error) bool { return target == errBehind }

// stops tells whether an engine has stopped by an error.
func stops(err error) bool { return errors.Is(err, api.ErrDead) || errors.Is(err, errBehind) }

// codeOf is the number of an error; OK of none.
func codeOf(err error) api.Errno {
	code := api.OK
	errors.As(err, &code)
	return code
}

// change is a call that changes the disk, on its way.
type change struct {
	*state
	disk  *disk.Disk
	wrote bool
}

// run does what changes the disk, and has the engine stop where that stopped it.
func (e *Engine) run(do func(c *change) error) api.Errno {
	if code := e.ready(); code != api.OK {
		return code
	}
	err := do(&change{state: e.state, disk: e.disk})
	if stops(err) {
		e.state = nil
	}
	return codeOf(err)
}

// did is what a call of a layer below came to, and whether it wrote: nil, if it came to no error.
func (c *change) did(wrote bool, code api.Errno) error {
	c.wrote = c.wrote || wrote
	if code == api.OK {
		return nil
	}
	if c.wrote {
		return behind{cause: code}
	}
	return code
}

// step is a part of a change.
type step func(d *disk.Disk) api.Errno

// all does steps one behind the other, up to an error.
func (c *change) all(steps ...step) error {
	for _, step := range steps {
		code := step(c.disk)
		if err := c.did(code == api.OK, code); err != nil {
			return err
		}
	}
	return nil
}

// back has memory as it was, if what was done came to an error: memory is turned ahead of the disk, and must not say what the disk did not take.
func (c *change) back(was state, err *error) {
	if *err != nil {
		*c.state = was
	}
}
