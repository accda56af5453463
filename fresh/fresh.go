// Package fresh copies what layers hand on, so that an answer shares no memory with
// what was handed in (R4 of DOC.md).
package fresh

import (
	"strings"

	"tattle/api"
)

// Cell answers c in memory of its own, its texts too.
func Cell(c api.Cell) api.Cell {
	c.Value = strings.Clone(c.Value)
	c.Entries = Entries(c.Entries)
	c.Elems = Elems(c.Elems)
	c.Seen = Ints(c.Seen)
	return c
}

// Entries answers a copy of list. It is made by append to nil and not by
// slices.Clone, since that one hands an empty list's own memory on.
func Entries(list []api.Entry) []api.Entry {
	list = append([]api.Entry(nil), list...)
	for i := range list {
		list[i].Value = strings.Clone(list[i].Value)
	}
	return list
}

// Elems answers a copy of list.
func Elems(list []api.Elem) []api.Elem {
	list = append([]api.Elem(nil), list...)
	for i := range list {
		list[i].Value = strings.Clone(list[i].Value)
	}
	return list
}

// Ints answers a copy of list.
func Ints(list []int) []int {
	return append([]int(nil), list...)
}
