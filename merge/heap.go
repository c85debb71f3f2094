package merge

// heap keeps things of any kind, so that the one ahead of all others is found at its first place: none is ahead of the one at half its place.
type heap[T any] struct {
	things []T
	ahead  func(a, b T) bool
}

func (h *heap[T]) push(thing T) {
	h.things = append(h.things, thing)
	at := len(h.things) - 1
	for at > 0 && h.ahead(h.things[at], h.things[above(at)]) {
		h.swap(at, above(at))
		at = above(at)
	}
}

// pop takes out the thing ahead of all others; there is one.
func (h *heap[T]) pop() T {
	thing, last := h.things[0], len(h.things)-1
	h.swap(0, last)
	h.things = h.things[:last]
	h.sink()
	return thing
}

// sink brings the thing at the first place to where it belongs.
func (h *heap[T]) sink() {
	at := 0
	for {
		foremost := at
		for below := 2*at + 1; below <= 2*at+2 && below < len(h.things); below++ {
			if h.ahead(h.things[below], h.things[foremost]) {
				foremost = below
			}
		}
		if foremost == at {
			return
		}
		h.swap(at, foremost)
		at = foremost
	}
}

func (h *heap[T]) swap(a, b int) { h.things[a], h.things[b] = h.things[b], h.things[a] }

// above is the place that a place hangs on.
func above(at int) int { return (at - 1) / 2 }
