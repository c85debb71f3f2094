package engine

import (
	"errors"
	"testing"

	"dryrot/api"
)

func TestStops(t *testing.T) {
	for _, code := range []api.Errno{api.ErrArg, api.ErrFull, api.ErrFile, api.ErrLost} {
		if stops(code) || !stops(behind{cause: code}) {
			t.Error(code)
		}
	}
	if stops(nil) || !stops(api.ErrDead) || !stops(behind{cause: api.ErrDead}) {
		t.Error("a disk that has stopped")
	}
	if codeOf(nil) != api.OK || codeOf(api.ErrFull) != api.ErrFull || codeOf(behind{cause: api.ErrFull}) != api.ErrFull {
		t.Error("codeOf")
	}
	if errors.Is(behind{cause: api.ErrFull}, api.ErrArg) || (behind{cause: api.ErrFull}).Error() == "" {
		t.Error("behind")
	}
}

// An error of the first step stops nothing; behind a step that wrote, each one does.
func TestDid(t *testing.T) {
	c := &change{}
	if err := c.did(false, api.ErrArg); stops(err) || codeOf(err) != api.ErrArg {
		t.Error(err)
	}
	if err := c.did(false, api.OK); err != nil {
		t.Error(err)
	}
	if err := c.did(false, api.ErrFull); stops(err) {
		t.Error(err)
	}
	if err := c.did(true, api.OK); err != nil {
		t.Error(err)
	}
	if err := c.did(false, api.ErrFull); !stops(err) || codeOf(err) != api.ErrFull {
		t.Error(err)
	}
}
