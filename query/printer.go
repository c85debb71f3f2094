package query

import (
	"strconv"
	"strings"

	"dryrot/api"
	"dryrot/match"
)

// Print writes a tree as a text.
func Print(q api.Query) (string, api.Errno) {
	if !Can(q) {
		return "", api.ErrArg
	}
	return text(q), api.OK
}

// text is a tree that is right as a text, however long.
func text(q api.Query) string {
	switch q.Kind {
	case api.QuerySelect:
		return selectorText(q)
	case api.QueryCall:
		return q.Name + inBrackets(q.Kids[0])
	case api.QueryFold:
		return q.Name + namesText(q) + inBrackets(q.Kids[0])
	case api.QueryJoin:
		bind := binding(q.Name)
		return sideText(q.Kids[0], bind) + " " + q.Name + " " + sideText(q.Kids[1], bind+1)
	}
	return strconv.FormatUint(q.Number, 10)
}

func inBrackets(q api.Query) string { return "(" + text(q) + ")" }

// sideText is one side of a join: in brackets, if it is a join that does not bind so tight.
func sideText(q api.Query, bind int) string {
	if q.Kind == api.QueryJoin && binding(q.Name) < bind {
		return inBrackets(q)
	}
	return text(q)
}

func selectorText(q api.Query) string {
	s := q.Name
	if q.Name == "" || len(q.Matchers) > 0 {
		matchers, _ := match.Text(q.Matchers)
		s += matchers
	}
	if q.Range > 0 {
		s += "[" + strconv.Itoa(q.Range) + "]"
	}
	if q.Offset > 0 {
		s += " offset " + strconv.Itoa(q.Offset)
	}
	return s
}

// namesText is what stands between a fold's word and its bracket.
func namesText(q api.Query) string {
	word := " by ("
	if q.Without {
		word = " without ("
	} else if len(q.Labels) == 0 {
		return " "
	}
	return word + strings.Join(q.Labels, ",") + ") "
}
