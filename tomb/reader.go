package tomb

import (
	"dryrot/api"
	"dryrot/crc"
	"dryrot/match"
)

// mostMatchers is how many bytes matchers that may be have at most.
const mostMatchers = 1 + api.MaxMatch*(1+1+api.MaxName+1+api.MaxRegex)

// reader goes through the bytes of deletes and a ledger. Once something can't be read it is broken for good.
type reader struct {
	rest   []byte
	broken bool
}

func (r *reader) deletes() []api.Delete {
	var l []api.Delete
	for range r.count(maxDeletes) {
		if r.broken {
			break
		}
		l = append(l, r.oneDelete())
	}
	return l
}

func (r *reader) oneDelete() api.Delete {
	var d api.Delete
	d.Matchers = r.matchers()
	d.From = r.number(wordWidth)
	d.To = r.number(wordWidth)
	d.Upto = r.number(wordWidth)
	return d
}

// matchers hands on no more bytes than matchers can have, since all that stands behind them is copied.
func (r *reader) matchers() []api.Matcher {
	b := r.rest[:min(mostMatchers, len(r.rest))]
	l, behind, e := match.Decode(b)
	r.broken = r.broken || e != api.OK
	r.take(len(b) - len(behind))
	return l
}

func (r *reader) ledger() []api.Spot {
	var l []api.Spot
	for range r.count(maxSpots) {
		if r.broken {
			break
		}
		l = append(l, r.oneSpot())
	}
	return l
}

func (r *reader) oneSpot() api.Spot {
	var s api.Spot
	s.Name = string(r.take(r.number(shortWidth)))
	s.Index = r.number(countWidth)
	return s
}

// count is how many come next. It gives up at more than may be, ahead of taking room for them.
func (r *reader) count(most int) int {
	n := r.number(countWidth)
	r.broken = r.broken || n > most
	return n
}

// number is the one that the next bytes say; below 0 as two's complement.
func (r *reader) number(width int) int {
	n, _ := crc.Get(r.take(width))
	return int(n)
}

// take is the next n bytes; none, if so many are not there.
func (r *reader) take(n int) []byte {
	if r.broken || len(r.rest) < n {
		r.broken = true
		return nil
	}
	b := r.rest[:n]
	r.rest = r.rest[n:]
	return b
}

// atEnd tells whether all could be read, and nothing more is there.
func (r *reader) atEnd() bool { return !r.broken && len(r.rest) == 0 }
