package index

import (
	"cmp"
	"maps"
	"slices"

	"dryrot/api"
	"dryrot/crc"
)

// How many bytes numbers have: of what is short, of places and how many there are, of times.
const (
	shortWidth = 1
	placeWidth = 4
	timeWidth  = 8
)

// textsOf is all names and values, rising, each once; and of each its place among them.
func textsOf(l []api.Entry) ([]string, map[string]int) {
	places := map[string]int{}
	for _, entry := range l {
		for _, label := range entry.Labels {
			places[label.Name] = 0
			places[label.Value] = 0
		}
	}
	texts := slices.Sorted(maps.Keys(places))
	for place, text := range texts {
		places[text] = place
	}
	return texts, places
}

func putTexts(b []byte, texts []string) []byte {
	b = putNumber(b, len(texts), placeWidth)
	for _, text := range texts {
		b = putNumber(b, len(text), shortWidth)
		b = append(b, text...)
	}
	return b
}

// putEntries leaves out where entries stand, since their sizes say it.
func putEntries(b []byte, l []api.Entry, places map[string]int) []byte {
	b = putNumber(b, len(l), placeWidth)
	for _, entry := range l {
		b = putNumber(b, len(entry.Labels), shortWidth)
		for _, label := range entry.Labels {
			b = putLabel(b, label, places)
		}
		b = putNumber(b, entry.Size, placeWidth)
		b = putNumber(b, entry.Min, timeWidth)
		b = putNumber(b, entry.Max, timeWidth)
	}
	return b
}

// putPostings goes through labels by their texts, which is the order of the texts' places.
func putPostings(b []byte, l []api.Entry, places map[string]int) []byte {
	holders := byLabel(l)
	for _, label := range slices.SortedFunc(maps.Keys(holders), compareLabels) {
		b = putLabel(b, label, places)
		b = putNumber(b, len(holders[label]), placeWidth)
		for _, place := range holders[label] {
			b = putNumber(b, place, placeWidth)
		}
	}
	return b
}

// byLabel is, of each label, the places of the entries that have it, rising.
func byLabel(l []api.Entry) map[api.Label][]int {
	holders := map[api.Label][]int{}
	for place, entry := range l {
		for _, label := range entry.Labels {
			holders[label] = append(holders[label], place)
		}
	}
	return holders
}

func compareLabels(a, b api.Label) int {
	return cmp.Or(cmp.Compare(a.Name, b.Name), cmp.Compare(a.Value, b.Value))
}

func putLabel(b []byte, label api.Label, places map[string]int) []byte {
	b = putNumber(b, places[label.Name], placeWidth)
	return putNumber(b, places[label.Value], placeWidth)
}

func putNumber(b []byte, n, width int) []byte { return append(b, crc.Put(uint64(n), width)...) }
