package query

import "dryrot/labels"

// tightest is the greatest binding.
const tightest = 4

// binding is how tight the word of a join binds; 0, if it is no such word.
func binding(word string) int {
	switch word {
	case "or":
		return 1
	case "and", "unless":
		return 2
	case "+", "-":
		return 3
	case "*":
		return tightest
	}
	return 0
}

func isFold(word string) bool {
	switch word {
	case "sum", "min", "max", "count", "group":
		return true
	}
	return false
}

func isCall(word string) bool {
	switch word {
	case "first_over", "last_over", "min_over", "max_over", "sum_over", "count_over", "delta_over", "changes_over":
		return true
	}
	return false
}

// isName tells whether a word may be the name of a selector: one that is taken may not.
func isName(word string) bool {
	switch word {
	case "by", "without", "offset":
		return false
	}
	return labels.Name(word) && !isFold(word) && !isCall(word) && binding(word) == 0
}
