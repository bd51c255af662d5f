package desk

import (
	"strconv"
	"strings"

	"croft/api"
	"croft/ask"
)

const mostDigits = 6

// number is what the word tells; a word that is no number has its line left.
func number(word string) int {
	if noNumber(word) {
		leave(api.ErrForm)
	}
	// There is no error to look at: so few digits are always a number.
	n, _ := strconv.Atoi(word)
	return n
}

func noNumber(word string) bool {
	return ask.Any(
		func() bool { return ask.Outside(1, mostDigits, len(word)) },
		func() bool { return word[0] == '0' && word != "0" },
		func() bool { return strings.Trim(word, "0123456789") != "" },
	)
}

// tell is the line for what is told.
func tell(told any) string {
	switch x := told.(type) {
	case api.Errno:
		return "error " + row(int(x))
	case string:
		return x
	case int:
		return row(x)
	case []int:
		return row(x...)
	case [api.Pages][api.Cells]int:
		var all []int
		for _, cells := range x {
			all = append(all, cells[:]...)
		}
		return row(all...)
	case [api.Pages]api.Page:
		return tell(cellsOf(x))
	}
	return "" // nothing else is told
}

func cellsOf(pages [api.Pages]api.Page) [api.Pages][api.Cells]int {
	var cells [api.Pages][api.Cells]int
	for at, p := range pages {
		cells[at] = p.Cells
	}
	return cells
}

// row is the numbers, with a blank between each two.
func row(numbers ...int) string {
	var words []string
	for _, n := range numbers {
		words = append(words, strconv.Itoa(n))
	}
	return strings.Join(words, " ")
}
