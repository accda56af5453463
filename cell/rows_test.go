package cell

import (
	"math"
	"reflect"
	"slices"
	"strings"

	"tattle/api"
)

// allKinds are the Kinds of cells; noKinds are none, some of them right once their
// upper bits are gone.
var (
	allKinds = []int{api.CellLww, api.CellCount, api.CellSet, api.CellList}
	noKinds  = []int{-1, -2, -4, 4, 5, 6, 9, 100, 255, 1 << 8, 1<<8 + 1, 1 << 16, 1<<16 + 2, 1 << 32, 1<<32 + 3, math.MinInt, math.MinInt + 1, math.MaxInt - 1, math.MaxInt}
	noNodes  = []int{math.MinInt, math.MinInt + 3, -256, -16, -3, -1, 0, 17, 18, 32, 1 << 8, 1<<8 + 3, 1 << 32, 1<<32 + 3, math.MaxInt - 1, math.MaxInt}
)

// far are numbers that none of a cell's may be, its Num's apart.
var far = []int{math.MinInt, math.MinInt + 1, -1 << 32, -256, -1, 1 << 24, 1 << 32, 1<<32 + 1, 1<<32 + 3, math.MaxInt - 1, math.MaxInt}

// farParts are numbers that no part of Num may be.
var farParts = []int{1<<52 + 1, 1<<52 + 2, 1 << 53, 1 << 62, math.MaxInt - 1, math.MaxInt, -1<<52 - 1, -1<<52 - 2, -1 << 53, math.MinInt, math.MinInt + 1}

// farTexts are longer than a value may be.
var farTexts = []string{strings.Repeat("v", 257), strings.Repeat("v", 258), strings.Repeat("v", 512), strings.Repeat("\x00", 257), strings.Repeat("\u00e9", 129), strings.Repeat("v", 65536)}

// fineTexts are values that may be.
var fineTexts = []string{"", "v", "\x00", "\xff", "\"", " ", strings.Repeat("v", 255), strings.Repeat("v", 256), strings.Repeat("\xff", 256), strings.Repeat("\u00e9", 128)}

func dotOf(node, seq int) api.Dot {
	return api.Dot{Node: node, Seq: seq}
}

func entryOf(node, seq int, value string) api.Entry {
	return api.Entry{Dot: dotOf(node, seq), Value: value}
}

func elemOf(node, seq, time int, value string) api.Elem {
	return api.Elem{Dot: dotOf(node, seq), Time: time, Value: value}
}

func goneOf(node, seq, time int) api.Elem {
	return api.Elem{Dot: dotOf(node, seq), Time: time, Gone: true}
}

// plain is a cell of that kind that may be for three nodes.
func plain(kind int) api.Cell {
	c := api.Cell{Kind: kind, Seen: []int{7, 299, 4}}
	switch kind {
	case api.CellLww:
		c.Set, c.Stamp, c.Value = true, api.Stamp{Time: 50, Node: 1}, "tea"
	case api.CellCount:
		c.Num = api.Pair{Re: -3, Im: 64}
	case api.CellSet:
		c.Entries = []api.Entry{entryOf(0, 2, "milk"), entryOf(0, 7, "tea"), entryOf(1, 1, "milk"), entryOf(2, 4, "")}
	case api.CellList:
		c.Elems = []api.Elem{elemOf(2, 4, 9, "oil"), goneOf(0, 7, 8), elemOf(0, 2, 7, "oil"), elemOf(1, 1, 1, "")}
	}
	return c
}

// same tells whether a and b are one cell; an empty list and nil are one.
func same(a, b api.Cell) bool {
	for _, c := range []*api.Cell{&a, &b} {
		if len(c.Entries) == 0 {
			c.Entries = nil
		}
		if len(c.Elems) == 0 {
			c.Elems = nil
		}
		if len(c.Seen) == 0 {
			c.Seen = nil
		}
	}
	return reflect.DeepEqual(a, b)
}

// row is a turn of plain's cells of those Kinds.
type row struct {
	what  string
	kinds []int
	turn  func(c *api.Cell)
}

// each calls do with what each row makes of plain's cell of each of its Kinds.
func each(rows []row, do func(what string, c api.Cell)) {
	for _, r := range rows {
		for _, kind := range r.kinds {
			c := plain(kind)
			r.turn(&c)
			do(r.what, c)
		}
	}
}

func only(kind int) []int {
	return []int{kind}
}

// without are all Kinds but that one.
func without(kind int) []int {
	return slices.DeleteFunc(slices.Clone(allKinds), func(k int) bool { return k == kind })
}

func texts(kind int, what string, all []string, turn func(c *api.Cell, s string)) []row {
	var rows []row
	for _, s := range all {
		rows = append(rows, row{what, only(kind), func(c *api.Cell) { turn(c, s) }})
	}
	return rows
}

func numbers(kinds []int, what string, all []int, turn func(c *api.Cell, x int)) []row {
	var rows []row
	for _, x := range all {
		rows = append(rows, row{what, kinds, func(c *api.Cell) { turn(c, x) }})
	}
	return rows
}

// dots are rows of a set of one entry of each of those dots, and of a list of one
// element.
func dots(what string, all []api.Dot) []row {
	var rows []row
	for _, d := range all {
		rows = append(rows,
			row{what, only(api.CellSet), func(c *api.Cell) { c.Entries = []api.Entry{{Dot: d, Value: "v"}} }},
			row{what, only(api.CellList), func(c *api.Cell) { c.Elems = []api.Elem{{Dot: d, Time: 3, Value: "v"}} }},
			row{what, only(api.CellList), func(c *api.Cell) { c.Elems = []api.Elem{{Dot: d, Time: 3, Gone: true}} }},
		)
	}
	return rows
}

func entries(what string, es ...api.Entry) row {
	return row{what, only(api.CellSet), func(c *api.Cell) { c.Entries = es }}
}

func elems(what string, es ...api.Elem) row {
	return row{what, only(api.CellList), func(c *api.Cell) { c.Elems = es }}
}

// fineRows are turns behind which a cell may be for three nodes.
func fineRows() []row {
	rows := []row{
		{"plain", allKinds, func(c *api.Cell) {}},
		{"Seen MaxSeq", allKinds, func(c *api.Cell) { c.Seen = []int{1048575, 1048575, 1048575} }},
		{"lists of no length", allKinds, func(c *api.Cell) {
			c.Entries = append(make([]api.Entry, 0, 4), c.Entries...)
			c.Elems = append(make([]api.Elem, 0, 4), c.Elems...)
		}},
		{"not Set", only(api.CellLww), func(c *api.Cell) { c.Set, c.Stamp, c.Value = false, api.Stamp{}, "" }},
		{"not Set, Seen zeros", only(api.CellLww), func(c *api.Cell) { *c = api.Cell{Seen: []int{0, 0, 0}} }},
		{"Set, Seen zeros", only(api.CellLww), func(c *api.Cell) { c.Seen = []int{0, 0, 0} }},
		{"Num, Seen zeros", only(api.CellCount), func(c *api.Cell) { c.Seen = []int{0, 0, 0} }},
		{"no Entries, Seen zeros", only(api.CellSet), func(c *api.Cell) { c.Seen, c.Entries = []int{0, 0, 0}, nil }},
		{"no Elems, Seen zeros", only(api.CellList), func(c *api.Cell) { c.Seen, c.Elems = []int{0, 0, 0}, nil }},
		entries("no Entries"),
		entries("Entries of each Node", entryOf(0, 7, "a"), entryOf(1, 299, "b"), entryOf(2, 4, "c")),
		entries("Seqs that fall", entryOf(0, 7, "a"), entryOf(1, 6, "b"), entryOf(2, 1, "c")),
		entries("Entries of one Node", entryOf(1, 1, "a"), entryOf(1, 2, "a"), entryOf(1, 299, "a")),
		elems("no Elems"),
		elems("Dots that rise", elemOf(0, 1, 1, "a"), elemOf(0, 2, 2, "b"), elemOf(2, 1, 1, "a")),
		elems("Dots that fall", elemOf(2, 1, 1, "a"), elemOf(0, 2, 1, "a"), elemOf(0, 1, 1, "a")),
		elems("Dots that turn", elemOf(0, 1, 1, "a"), elemOf(1, 1, 1, "a"), elemOf(1, 2, 1, "a"), elemOf(0, 2, 1, "a"), elemOf(2, 1, 1, "a"), elemOf(2, 2, 1, "a")),
		elems("all Gone", goneOf(0, 1, 1), goneOf(0, 2, 16777215)),
		elems("a later one ahead", elemOf(0, 1, 1, "a"), elemOf(0, 2, 9, "b")),
	}
	rows = append(rows, texts(api.CellLww, "Value", fineTexts, func(c *api.Cell, s string) { c.Value = s })...)
	rows = append(rows, texts(api.CellSet, "Value", fineTexts, func(c *api.Cell, s string) { c.Entries[1].Value = s })...)
	rows = append(rows, texts(api.CellList, "Value", fineTexts, func(c *api.Cell, s string) { c.Elems[2].Value = s })...)
	times := []int{1, 2, 255, 256, 1 << 20, 16777214, 16777215}
	rows = append(rows, numbers(only(api.CellLww), "Time", times, func(c *api.Cell, x int) { c.Stamp.Time = x })...)
	rows = append(rows, numbers(only(api.CellLww), "Node", []int{0, 1, 2}, func(c *api.Cell, x int) { c.Stamp.Node = x })...)
	rows = append(rows, numbers(only(api.CellList), "Time", times, func(c *api.Cell, x int) { c.Elems[0].Time = x })...)
	rows = append(rows, numbers(only(api.CellList), "Time of one Gone", times, func(c *api.Cell, x int) { c.Elems[1].Time = x })...)
	parts := []int{0, 1, -1, 2, 1 << 32, -1 << 32, 1099511627777, 1<<52 - 1, 1 << 52, -1<<52 + 1, -1 << 52}
	for _, re := range parts {
		rows = append(rows, numbers(only(api.CellCount), "Num", parts, func(c *api.Cell, im int) { c.Num = api.Pair{Re: re, Im: im} })...)
	}
	return append(rows, dots("just in Seen", []api.Dot{dotOf(0, 1), dotOf(0, 6), dotOf(0, 7), dotOf(1, 1), dotOf(1, 299), dotOf(2, 1), dotOf(2, 4)})...)
}

// notThere are dots that plain's Seen has not.
func notThere() []api.Dot {
	ds := []api.Dot{{}, dotOf(1, 0), dotOf(2, 0), dotOf(0, 8), dotOf(0, 299), dotOf(1, 300), dotOf(2, 5), dotOf(2, 7), dotOf(3, 1), dotOf(3, 0), dotOf(16, 1)}
	for _, x := range far {
		ds = append(ds, dotOf(x, 1), dotOf(0, x), dotOf(1, x), dotOf(x, x))
	}
	return ds
}

// badRows are turns behind which a cell may not be for three nodes, each by Seen or by
// one part that its Kind names.
func badRows() []row {
	rows := []row{
		{"no Seen", allKinds, func(c *api.Cell) { c.Seen = nil }},
		{"Seen too short", allKinds, func(c *api.Cell) { c.Seen = c.Seen[:2] }},
		{"Seen too long", allKinds, func(c *api.Cell) { c.Seen = append(c.Seen, 0) }},
		{"Seen MaxSeq + 1", allKinds, func(c *api.Cell) { c.Seen[2] = 1048576 }},
		{"Set, zero Stamp", only(api.CellLww), func(c *api.Cell) { c.Stamp = api.Stamp{} }},
		{"Set, zero Stamp, no Value", only(api.CellLww), func(c *api.Cell) { c.Stamp, c.Value = api.Stamp{}, "" }},
		{"not Set, Stamp and Value", only(api.CellLww), func(c *api.Cell) { c.Set = false }},
		{"not Set, Stamp", only(api.CellLww), func(c *api.Cell) { c.Set, c.Value = false, "" }},
		{"not Set, Stamp.Time", only(api.CellLww), func(c *api.Cell) { c.Set, c.Stamp, c.Value = false, api.Stamp{Time: 1}, "" }},
		{"not Set, Stamp.Node", only(api.CellLww), func(c *api.Cell) { c.Set, c.Stamp, c.Value = false, api.Stamp{Node: 1}, "" }},
		{"not Set, Value", only(api.CellLww), func(c *api.Cell) { c.Set, c.Stamp = false, api.Stamp{} }},
		entries("two alike", entryOf(0, 2, "a"), entryOf(0, 2, "a")),
		entries("two alike but for the Value", entryOf(0, 2, "a"), entryOf(0, 2, "b")),
		entries("the last two alike", entryOf(0, 1, "a"), entryOf(0, 2, "a"), entryOf(0, 2, "b")),
		entries("Nodes that fall", entryOf(1, 1, "a"), entryOf(0, 2, "b")),
		entries("Nodes that fall, Seqs alike", entryOf(1, 1, "a"), entryOf(0, 1, "b")),
		entries("Seqs that fall", entryOf(0, 2, "a"), entryOf(0, 1, "b")),
		entries("the last one falls", entryOf(0, 2, "a"), entryOf(1, 1, "b"), entryOf(0, 3, "c")),
		elems("two alike", elemOf(0, 2, 1, "a"), elemOf(0, 2, 1, "a")),
		elems("two alike but for the rest", elemOf(0, 2, 1, "a"), goneOf(0, 2, 2)),
		elems("two alike, both Gone", goneOf(0, 2, 2), goneOf(0, 2, 3)),
		elems("two alike with one between", elemOf(0, 2, 1, "a"), elemOf(1, 2, 1, "a"), elemOf(0, 2, 2, "b")),
		elems("the last two alike", elemOf(1, 2, 1, "a"), elemOf(0, 2, 1, "a"), elemOf(0, 2, 2, "b")),
		elems("a Value of one Gone", api.Elem{Dot: dotOf(0, 1), Time: 1, Value: "v", Gone: true}),
		elems("a Value of the last one, Gone", elemOf(1, 1, 1, "a"), api.Elem{Dot: dotOf(0, 1), Time: 1, Value: "\x00", Gone: true}),
		elems("too long a Value of one Gone", api.Elem{Dot: dotOf(0, 1), Time: 1, Value: farTexts[0], Gone: true}),
		{"a dot too new", only(api.CellSet), func(c *api.Cell) { c.Seen[2] = 3 }},
		{"a dot too new", only(api.CellList), func(c *api.Cell) { c.Seen[2] = 3 }},
		{"a Gone dot too new", only(api.CellList), func(c *api.Cell) { c.Seen[0] = 6 }},
	}
	for _, x := range far {
		rows = append(rows,
			row{"first of Seen", allKinds, func(c *api.Cell) { c.Seen[0] = x }},
			row{"last of Seen", allKinds, func(c *api.Cell) { c.Seen[2] = x }},
			row{"Stamp.Time", only(api.CellLww), func(c *api.Cell) { c.Stamp.Time = x }},
			row{"Stamp.Node", only(api.CellLww), func(c *api.Cell) { c.Stamp.Node = x }},
			row{"Elem.Time", only(api.CellList), func(c *api.Cell) { c.Elems[0].Time = x }},
			row{"Elem.Time of one Gone", only(api.CellList), func(c *api.Cell) { c.Elems[1].Time = x }},
			row{"the last Elem.Time", only(api.CellList), func(c *api.Cell) { c.Elems[3].Time = x }},
		)
	}
	rows = append(rows, numbers(only(api.CellLww), "Stamp.Node", []int{3, 4, 15, 16}, func(c *api.Cell, x int) { c.Stamp.Node = x })...)
	rows = append(rows, numbers(only(api.CellLww), "Stamp.Time", []int{0, 16777216}, func(c *api.Cell, x int) { c.Stamp.Time = x })...)
	rows = append(rows, numbers(only(api.CellList), "Elem.Time", []int{0, 16777216}, func(c *api.Cell, x int) { c.Elems[2].Time = x })...)
	rows = append(rows, texts(api.CellLww, "Value", farTexts, func(c *api.Cell, s string) { c.Value = s })...)
	rows = append(rows, texts(api.CellSet, "Value", farTexts, func(c *api.Cell, s string) { c.Entries[0].Value = s })...)
	rows = append(rows, texts(api.CellSet, "the last Value", farTexts, func(c *api.Cell, s string) { c.Entries[3].Value = s })...)
	rows = append(rows, texts(api.CellList, "Value", farTexts, func(c *api.Cell, s string) { c.Elems[0].Value = s })...)
	rows = append(rows, texts(api.CellList, "the last Value", farTexts, func(c *api.Cell, s string) { c.Elems[3].Value = s })...)
	rows = append(rows, numbers(only(api.CellCount), "Re", farParts, func(c *api.Cell, x int) { c.Num.Re = x })...)
	rows = append(rows, numbers(only(api.CellCount), "Im", farParts, func(c *api.Cell, x int) { c.Num.Im = x })...)
	rows = append(rows, numbers(only(api.CellCount), "Re and Im", farParts, func(c *api.Cell, x int) { c.Num = api.Pair{Re: x, Im: x} })...)
	return append(rows, dots("not in Seen", notThere())...)
}

// strayRows are turns behind which there is something in a part that the Kind does not
// name, one at a time.
func strayRows() []row {
	unset, uncounted := without(api.CellLww), without(api.CellCount)
	rows := []row{
		{"Set", unset, func(c *api.Cell) { c.Set = true }},
		{"Set with Stamp and Value", unset, func(c *api.Cell) { c.Set, c.Stamp, c.Value = true, api.Stamp{Time: 5, Node: 1}, "v" }},
		{"an Entry of the zero Dot", without(api.CellSet), func(c *api.Cell) { c.Entries = make([]api.Entry, 1) }},
		{"an Entry", without(api.CellSet), func(c *api.Cell) { c.Entries = []api.Entry{entryOf(0, 2, "v")} }},
		{"Entries", without(api.CellSet), func(c *api.Cell) { c.Entries = plain(api.CellSet).Entries }},
		{"an Elem of the zero Dot", without(api.CellList), func(c *api.Cell) { c.Elems = make([]api.Elem, 1) }},
		{"an Elem", without(api.CellList), func(c *api.Cell) { c.Elems = []api.Elem{elemOf(0, 2, 1, "v")} }},
		{"an Elem that is Gone", without(api.CellList), func(c *api.Cell) { c.Elems = []api.Elem{goneOf(0, 2, 1)} }},
		{"Elems", without(api.CellList), func(c *api.Cell) { c.Elems = plain(api.CellList).Elems }},
	}
	for _, s := range []string{"v", "\x00", " ", farTexts[0]} {
		rows = append(rows, row{"Value", unset, func(c *api.Cell) { c.Value = s }})
	}
	for _, x := range append([]int{1, 2, 16777215}, far...) {
		rows = append(rows,
			row{"Stamp.Time", unset, func(c *api.Cell) { c.Stamp.Time = x }},
			row{"Stamp.Node", unset, func(c *api.Cell) { c.Stamp.Node = x }},
			row{"Re", uncounted, func(c *api.Cell) { c.Num.Re = x }},
			row{"Im", uncounted, func(c *api.Cell) { c.Num.Im = x }},
		)
	}
	return rows
}
