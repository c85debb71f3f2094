package index

import (
	"dryrot/api"
	"dryrot/crc"
)

// reader goes through the bytes of an index. Once something can't be read it is broken for good. It reads texts and entries alone: the postings hang on these.
type reader struct {
	rest   []byte
	broken bool
}

func (r *reader) texts() []string {
	var l []string
	for range r.count(maxTexts) {
		if r.broken {
			break
		}
		l = append(l, string(r.take(r.number(shortWidth))))
	}
	return l
}

func (r *reader) entries(texts []string) []api.Entry {
	var l []api.Entry
	at := 0
	for range r.count(maxEntries) {
		if r.broken {
			break
		}
		entry := r.entry(texts)
		entry.At = at
		at += entry.Size
		l = append(l, entry)
	}
	return l
}

func (r *reader) entry(texts []string) api.Entry {
	var x api.Entry
	for range r.number(shortWidth) {
		name := r.text(texts)
		value := r.text(texts)
		x.Labels = append(x.Labels, api.Label{Name: name, Value: value})
	}
	x.Size = r.number(placeWidth)
	x.Min = r.number(timeWidth)
	x.Max = r.number(timeWidth)
	return x
}

// text is the one of texts at the place that comes next.
func (r *reader) text(texts []string) string {
	place := r.number(placeWidth)
	if place >= len(texts) {
		r.broken = true
		return ""
	}
	return texts[place]
}

// count is how many come next. It gives up at more than may be, ahead of taking room for them.
func (r *reader) count(most int) int {
	n := r.number(placeWidth)
	r.broken = r.broken || n > most
	return n
}

// number is the one that the next bytes say; below 0 as two's complement.
func (r *reader) number(width int) int {
	n, _ := crc.Get(r.take(width))
	return int(n)
}

// take is the next n bytes; none, if so many are not there.
func (r *reader) take(n int) []byte {
	if r.broken || len(r.rest) < n {
		r.broken = true
		return nil
	}
	b := r.rest[:n]
	r.rest = r.rest[n:]
	return b
}
