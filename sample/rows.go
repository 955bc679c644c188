package sample

import (
	"slices"
	"strings"

	"watersmeet/api"
	"watersmeet/value"
)

// Rows tells the rows that a text is of: 1,∅ - 3 are a row of two values, an empty one, and one of one value.
func Rows(text string) []api.Row {
	var l []api.Row
	for _, part := range strings.Fields(text) {
		l = append(l, row(part))
	}
	return l
}

// Lists tells the lists of rows that a text is of: 1,∅ - 3; 4 are two of them.
func Lists(text string) [][]api.Row {
	if text == "" {
		return nil
	}
	var l [][]api.Row
	for _, part := range strings.Split(text, ";") {
		l = append(l, Rows(part))
	}
	return l
}

// SameRows tells whether both have the same rows at the same places; a row that is nil is empty.
func SameRows(a, b []api.Row) bool {
	return slices.EqualFunc(a, b, func(r, s api.Row) bool { return slices.Equal(r, s) })
}

// SameLists tells whether both have the same lists of rows at the same places.
func SameLists(a, b [][]api.Row) bool {
	return slices.EqualFunc(a, b, SameRows)
}

// Room tells all rows of these lists in the memory that they are in, with the spare room of the lists and of the rows.
func Room(l [][]api.Row) []api.Row {
	var found []api.Row
	for _, t := range l[:cap(l)] {
		for _, row := range t[:cap(t)] {
			found = append(found, row[:cap(row)])
		}
	}
	return found
}

// Copy tells rows in new memory.
func Copy(l []api.Row) []api.Row {
	var c []api.Row
	for _, row := range l {
		c = append(c, slices.Clone(row))
	}
	return c
}

// Copies tells lists of rows in new memory.
func Copies(l [][]api.Row) [][]api.Row {
	var c [][]api.Row
	for _, t := range l {
		c = append(c, Copy(t))
	}
	return c
}

// row tells the row that a text without a space is of.
func row(text string) api.Row {
	if text == "-" {
		return nil
	}
	var r api.Row
	for _, part := range strings.Split(text, ",") {
		// The texts are those of the tests: one that is none would be seen there.
		v, _ := value.Parse(part)
		r = append(r, v)
	}
	return r
}
