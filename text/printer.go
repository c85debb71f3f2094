package text

import (
	"slices"
	"strconv"

	"dryrot/api"
	"dryrot/labels"
)

// mostHelp is how long a help may be, so that its line is none too long.
const mostHelp = 900

// Print writes rows, and what is told of names, as lines.
func Print(l []api.Row, m []api.Meta) ([]byte, api.Errno) {
	if slices.ContainsFunc(l, isWrongRow) || slices.ContainsFunc(m, isWrongMeta) {
		return nil, api.ErrArg
	}
	var b []byte
	for _, meta := range m {
		b = addMeta(b, helpSign, meta.Name, meta.Help)
		b = addMeta(b, kindSign, meta.Name, meta.Kind)
	}
	for _, row := range l {
		b = addRow(b, row)
	}
	return b, api.OK
}

func isWrongRow(row api.Row) bool { return !labels.Can(row.Labels) }

func isWrongMeta(m api.Meta) bool {
	return !labels.Name(m.Name) || m.Kind != "" && !isKind(m.Kind) || len(m.Help) > mostHelp || !isHelp(m.Help)
}

// addMeta puts a line behind others, if it tells something.
func addMeta(b []byte, sign, name, told string) []byte {
	if told == "" {
		return b
	}
	return append(b, sign+name+" "+told+"\n"...)
}

func addRow(b []byte, row api.Row) []byte {
	others := row.Labels
	if name := labels.Get(row.Labels, nameLabel); labels.Name(name) {
		b = append(b, name...)
		others = without(row.Labels, nameLabel)
	}
	if len(others) > 0 {
		text, _ := labels.Text(others)
		b = append(b, text...)
	}
	b = append(b, ' ')
	b = strconv.AppendUint(b, row.V, 10)
	b = append(b, ' ')
	b = strconv.AppendInt(b, int64(row.T), 10)
	return append(b, '\n')
}

// without is labels but for that of a name, in a list of its own.
func without(l []api.Label, name string) []api.Label {
	var others []api.Label
	for _, label := range l {
		if label.Name != name {
			others = append(others, label)
		}
	}
	return others
}
