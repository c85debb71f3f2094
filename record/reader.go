package record

import (
	"dryrot/api"
	"dryrot/crc"
	"dryrot/labels"
	"dryrot/match"
)

// How many bytes labels, and matchers, that may be have at most.
const (
	mostLabels   = 1 + api.MaxLabels*(1+api.MaxName+1+api.MaxValue)
	mostMatchers = 1 + api.MaxMatch*(1+1+api.MaxName+1+api.MaxRegex)
)

// byteReader goes through bytes. Once something can't be read it is broken for good, so that nobody has to ask ahead of the end.
type byteReader struct {
	rest   []byte
	broken bool
}

// number is the one that the next bytes say.
func (r *byteReader) number(width int) uint64 {
	n, _ := crc.Get(r.take(width))
	return n
}

// take is the next n bytes; none, if so many are not there.
func (r *byteReader) take(n int) []byte {
	if r.broken || len(r.rest) < n {
		r.broken = true
		return nil
	}
	b := r.rest[:n]
	r.rest = r.rest[n:]
	return b
}

// ahead is the next bytes, n at most, without going on.
func (r *byteReader) ahead(n int) []byte { return r.rest[:min(n, len(r.rest))] }

// atEnd tells whether all could be read, and nothing more is there.
func (r *byteReader) atEnd() bool { return !r.broken && len(r.rest) == 0 }

// opReader goes through the bytes of an operation. It hands the layers below no more than they can need: they copy what stands behind what they read.
type opReader struct {
	byteReader
}

func (r *opReader) op() api.Op {
	o := api.Op{Kind: int(r.number(kindWidth))}
	switch o.Kind {
	case api.OpAppend:
		o.Rows = r.rows()
	case api.OpDelete:
		o.Matchers = r.matchers()
		o.From = r.signed()
		o.To = r.signed()
	case api.OpKeep:
		o.Keep = r.signed()
	}
	return o
}

func (r *opReader) rows() []api.Row {
	var l []api.Row
	for range r.number(countWidth) {
		if r.broken {
			break
		}
		l = append(l, r.row())
	}
	return l
}

func (r *opReader) row() api.Row {
	var row api.Row
	row.Labels = r.labels()
	row.T = r.signed()
	row.V = r.number(wordWidth)
	return row
}

func (r *opReader) labels() []api.Label {
	b := r.ahead(mostLabels)
	l, behind, e := labels.Decode(b)
	r.goOn(len(b)-len(behind), e)
	return l
}

func (r *opReader) matchers() []api.Matcher {
	b := r.ahead(mostMatchers)
	l, behind, e := match.Decode(b)
	r.goOn(len(b)-len(behind), e)
	return l
}

// goOn goes over what another layer has read, if it could.
func (r *opReader) goOn(n int, e api.Errno) {
	r.broken = r.broken || e != api.OK
	r.take(n)
}

func (r *opReader) signed() int { return int(r.number(wordWidth)) }
