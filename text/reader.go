package text

import (
	"cmp"
	"slices"
	"strconv"
	"strings"

	"dryrot/api"
	"dryrot/labels"
)

const (
	nameLabel = "__name__"
	helpSign  = "# HELP "
	kindSign  = "# TYPE "
	blanks    = " \t"
	digits    = "0123456789"
	hexDigits = digits + "abcdef"
)

// What a line says.
const (
	nothing = iota
	aRow
	aKind // of a name
	aHelp // of a name
)

// saying is what a line says, with the row or the Meta that it says it of.
type saying struct {
	what int
	row  api.Row
	meta api.Meta
}

// read is what a line says; a sample without a time has the time now. Whoever can't go on reading throws the error, and here, where the line began, it is caught.
func read(s string, now int) (_ saying, e api.Errno) {
	defer func() {
		if thrown := recover(); thrown != nil {
			e = thrown.(api.Errno)
		}
	}()
	if len(s) > api.MaxLine {
		panic(api.ErrFull)
	}
	must(!strings.Contains(s, "\n"))
	switch {
	case strings.Trim(s, blanks) == "":
		return saying{}, api.OK
	case strings.HasPrefix(s, helpSign):
		return saying{what: aHelp, meta: readHelp(s)}, api.OK
	case strings.HasPrefix(s, kindSign):
		return saying{what: aKind, meta: readKind(s)}, api.OK
	case strings.HasPrefix(s, "#"):
		return saying{}, api.OK
	}
	return saying{what: aRow, row: readRow(s, now)}, api.OK
}

// must throws, where a line is not as it has to be.
func must(ok bool) {
	if !ok {
		panic(api.ErrSyntax)
	}
}

func readHelp(s string) api.Meta {
	name, help, found := strings.Cut(s[len(helpSign):], " ")
	must(found && labels.Name(name) && isHelp(help))
	return api.Meta{Name: name, Help: help}
}

func readKind(s string) api.Meta {
	name, kind, _ := strings.Cut(s[len(kindSign):], " ")
	must(labels.Name(name) && isKind(kind))
	return api.Meta{Name: name, Kind: kind}
}

// isHelp tells whether a text has no byte that a line of help may not have.
func isHelp(s string) bool {
	return !slices.ContainsFunc([]byte(s), func(c byte) bool { return c < ' ' })
}

func isKind(s string) bool {
	switch s {
	case "counter", "gauge", "histogram", "summary", "untyped":
		return true
	}
	return false
}

func readRow(s string, now int) api.Row {
	r := reader{rest: s}
	row := api.Row{Labels: r.labels(), T: now}
	must(r.blanks())
	row.V = readValue(r.word())
	if r.blanks() && r.rest != "" {
		row.T = readTime(r.word())
		r.blanks()
	}
	must(r.rest == "")
	return row
}

// reader reads the parts of a sample, one behind the other, and keeps what is left.
type reader struct{ rest string }

// blanks passes blanks by, and tells whether there were some.
func (r *reader) blanks() bool {
	behind := strings.TrimLeft(r.rest, blanks)
	some := len(behind) < len(r.rest)
	r.rest = behind
	return some
}

// word takes all up to the next blank, or to the end.
func (r *reader) word() string {
	end := strings.IndexAny(r.rest, blanks)
	if end < 0 {
		end = len(r.rest)
	}
	return r.take(end)
}

func (r *reader) take(n int) string {
	taken := r.rest[:n]
	r.rest = r.rest[n:]
	return taken
}

// passes takes what stands first, if it is this.
func (r *reader) passes(sign string) bool {
	behind, found := strings.CutPrefix(r.rest, sign)
	r.rest = behind
	return found
}

// labels reads name and labels, in any order, and tells them by name. Whether each of them may be is asked of all together, which tells one that stands there twice, too.
func (r *reader) labels() []api.Label {
	var l []api.Label
	if name := r.name(); name != "" {
		must(labels.Name(name))
		l = append(l, api.Label{Name: nameLabel, Value: name})
	}
	if r.passes("{") {
		l = append(l, r.label())
		for r.passes(",") {
			l = append(l, r.label())
		}
		must(r.passes("}"))
	}
	slices.SortFunc(l, func(a, b api.Label) int { return cmp.Compare(a.Name, b.Name) })
	must(labels.Can(l))
	return l
}

// name takes all up to a blank or to where labels begin.
func (r *reader) name() string {
	end := strings.IndexAny(r.rest, blanks+"{")
	if end < 0 {
		end = len(r.rest)
	}
	return r.take(end)
}

func (r *reader) label() api.Label {
	name, behind, found := strings.Cut(r.rest, "=")
	must(found)
	value, rest, e := labels.Unquote(behind)
	must(e == api.OK)
	r.rest = rest
	return api.Label{Name: name, Value: value}
}

// readValue reads decimal digits, or 0x and more of them.
func readValue(s string) uint64 {
	base, most, some := 10, 20, digits
	number, isHex := strings.CutPrefix(s, "0x")
	if isHex {
		base, most, some = 16, 16, hexDigits
	}
	must(isOf(number, some, most))
	v, err := strconv.ParseUint(number, base, 64)
	must(err == nil)
	return v
}

func readTime(s string) int {
	must(isOf(strings.TrimPrefix(s, "-"), digits, 19))
	t, err := strconv.ParseInt(s, 10, 64)
	must(err == nil)
	return int(t)
}

// isOf tells whether a text is one to so many of some digits.
func isOf(s, some string, most int) bool {
	return len(s) >= 1 && len(s) <= most && strings.Trim(s, some) == ""
}
