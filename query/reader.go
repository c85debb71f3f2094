package query

import (
	"strconv"
	"strings"

	"dryrot/api"
	"dryrot/labels"
	"dryrot/match"
)

// Parse reads a query.
func Parse(s string) (api.Query, api.Errno) { return read(s) }

// read is the tree of a text. Whoever can't go on reading throws the error, and here, where the query began, it is caught.
func read(s string) (_ api.Query, e api.Errno) {
	defer func() {
		if thrown := recover(); thrown != nil {
			e = thrown.(api.Errno)
		}
	}()
	if len(s) > api.MaxQuery {
		panic(api.ErrFull)
	}
	must(strings.Trim(s, " ") == s) // blanks stand between two parts alone: none ahead of the first one, none behind the last
	r := reader{rest: s}
	r.next()
	q := r.query()
	must(r.part == "" && Can(q))
	return q, api.OK
}

// must throws, where a text is not as it has to be.
func must(ok bool) {
	if !ok {
		panic(api.ErrSyntax)
	}
}

// reader reads a text part by part: the one that is to be looked at, what stands behind it, and in how many brackets it stands. At the end the part is empty.
type reader struct {
	part, rest string
	brackets   int
}

// next goes on to the next part.
func (r *reader) next() {
	r.rest = strings.TrimLeft(r.rest, " ")
	end := partEnd(r.rest)
	r.part, r.rest = r.rest[:end], r.rest[end:]
}

// partEnd is where the first part of a text ends: a word or a number is as long as it can be, matchers are one part, each other sign stands for itself.
func partEnd(s string) int {
	behind := strings.TrimLeftFunc(s, isOfWord)
	switch {
	case len(behind) < len(s):
		return len(s) - len(behind)
	case strings.HasPrefix(s, "{"):
		return matchersEnd(s)
	}
	return min(len(s), 1)
}

func isOfWord(r rune) bool {
	return r >= 'a' && r <= 'z' || r >= 'A' && r <= 'Z' || r >= '0' && r <= '9' || r == '_'
}

// matchersEnd is where matchers end: at the first } that no quoted value has.
func matchersEnd(s string) int {
	rest := s
	for {
		at := strings.IndexAny(rest, `"}`)
		must(at >= 0)
		if rest[at] == '}' {
			return len(s) - len(rest) + at + 1
		}
		_, behind, e := labels.Unquote(rest[at:])
		must(e == api.OK)
		rest = behind
	}
}

// take is the part that is looked at, and goes on to the next.
func (r *reader) take() string {
	part := r.part
	r.next()
	return part
}

// passes goes on, if the part is this one.
func (r *reader) passes(part string) bool {
	if r.part != part {
		return false
	}
	r.next()
	return true
}

// bracketed reads a thing in brackets.
func (r *reader) bracketed(thing func() api.Query) api.Query {
	must(r.passes("("))
	r.brackets++
	must(r.brackets <= api.MaxNest)
	q := thing()
	r.brackets--
	must(r.passes(")"))
	return q
}

func (r *reader) query() api.Query { return r.joined(1) }

// joined reads queries with words between them that bind so tight, from left to right; what binds tighter is within them.
func (r *reader) joined(bind int) api.Query {
	if bind > tightest {
		return r.single()
	}
	q := r.joined(bind + 1)
	for binding(r.part) == bind {
		word := r.take()
		q = api.Query{Kind: api.QueryJoin, Name: word, Kids: []api.Query{q, r.joined(bind + 1)}}
	}
	return q
}

// single reads a query that is no join, or one in brackets.
func (r *reader) single() api.Query {
	switch {
	case r.part == "(":
		return r.bracketed(r.query)
	case isCall(r.part):
		return r.call()
	case isFold(r.part):
		return r.fold()
	case isNumber(r.part):
		return r.number()
	}
	return r.selector()
}

func isNumber(part string) bool { return part != "" && part[0] >= '0' && part[0] <= '9' }

func (r *reader) call() api.Query {
	word := r.take()
	return api.Query{Kind: api.QueryCall, Name: word, Kids: []api.Query{r.bracketed(r.selector)}}
}

func (r *reader) fold() api.Query {
	q := api.Query{Kind: api.QueryFold, Name: r.take()}
	if r.part == "by" || r.part == "without" {
		q.Without = r.take() == "without"
		q.Labels = r.names()
	}
	q.Kids = []api.Query{r.bracketed(r.query)}
	return q
}

// names reads the names of a fold. Whether they may be is asked with the tree.
func (r *reader) names() []string {
	must(r.passes("("))
	if r.passes(")") {
		return nil
	}
	l := []string{r.take()}
	for r.passes(",") {
		l = append(l, r.take())
	}
	must(r.passes(")"))
	return l
}

func (r *reader) number() api.Query {
	part := r.take()
	n, err := strconv.ParseUint(part, 10, 64)
	must(err == nil && len(part) <= 20)
	return api.Query{Kind: api.QueryNumber, Number: n}
}

// selector reads a selector. Whether it has a Range where it has to, and nowhere else, is asked with the tree.
func (r *reader) selector() api.Query {
	q := api.Query{Kind: api.QuerySelect}
	isNamed := isName(r.part)
	if isNamed {
		q.Name = r.take()
	}
	isMatched := strings.HasPrefix(r.part, "{")
	if isMatched {
		q.Matchers = readMatchers(r.take())
	}
	must(isNamed || isMatched)
	if r.passes("[") {
		q.Range = r.length()
		must(r.passes("]"))
	}
	if r.passes("offset") {
		q.Offset = r.length()
	}
	return q
}

func readMatchers(s string) []api.Matcher {
	l, e := match.Parse(s)
	must(e == api.OK)
	return l
}

func (r *reader) length() int {
	part := r.take()
	n, err := strconv.Atoi(part)
	must(err == nil && len(part) <= 9 && n > 0)
	return n
}
