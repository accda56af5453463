package op

import (
	"math"
	"slices"
	"strings"

	"tattle/api"
)

// allKinds are the Kinds of operations; noKinds are none, some of them right once their
// upper bits are gone.
var (
	allKinds = []int{api.OpSet, api.OpAdd, api.OpPut, api.OpDrop, api.OpInsert, api.OpErase}
	noKinds  = []int{-1, -2, -6, 6, 7, 8, 100, 255, 1 << 8, 1<<8 + 1, 1 << 16, 1<<16 + 4, 1 << 32, 1<<32 + 5, math.MinInt, math.MinInt + 3, math.MaxInt - 1, math.MaxInt}
)

// far are numbers that none of an operation's may be, its Num's apart.
var far = []int{math.MinInt, math.MinInt + 1, -1 << 32, -256, -1, 1 << 24, 1 << 32, 1<<32 + 3, math.MaxInt - 1, math.MaxInt}

func dotOf(node, seq int) api.Dot {
	return api.Dot{Node: node, Seq: seq}
}

// plain is an operation of that Kind that may be for three nodes.
func plain(kind int) api.Op {
	o := api.Op{Dot: dotOf(1, 300), Time: 5, Deps: []int{7, 299, 4}, Kind: kind, Type: "T", Id: "i", Field: "f"}
	switch kind {
	case api.OpSet:
		o.Value = "tea"
	case api.OpAdd:
		o.Num = api.Pair{Re: -3, Im: 64}
	case api.OpPut:
		o.Value = "milk"
	case api.OpDrop:
		o.Dots = []api.Dot{dotOf(0, 2), dotOf(0, 7), dotOf(2, 4)}
	case api.OpInsert:
		o.Value, o.Ref = "oil", dotOf(0, 3)
	case api.OpErase:
		o.Ref = dotOf(2, 1)
	}
	return o
}

// of is a plain operation of n nodes and of that Kind, whose Dot is Node's and Seq, and
// which refers to nothing where it need not.
func of(n, node, seq, kind int) api.Op {
	o := plain(kind)
	o.Dot, o.Deps = dotOf(node, seq), make([]int, n)
	for i := range n {
		o.Deps[i] = 9 + i
	}
	o.Deps[node] = seq - 1
	o.Dots, o.Ref = nil, api.Dot{}
	if kind == api.OpErase {
		o.Ref = dotOf((node+1)%n, 1)
	}
	return o
}

// many are n dots that rise, of nodes 0 and 1.
func many(n int) []api.Dot {
	var ds []api.Dot
	for i := range n {
		ds = append(ds, dotOf(i*2/n, 1+i))
	}
	return ds
}

// row is a turn of plain's operations of those Kinds.
type row struct {
	what  string
	kinds []int
	turn  func(o *api.Op)
}

// each calls do with what each row makes of plain's operation of each of its Kinds.
func each(rows []row, do func(what string, o api.Op)) {
	for _, r := range rows {
		for _, kind := range r.kinds {
			o := plain(kind)
			r.turn(&o)
			do(r.what, o)
		}
	}
}

func texts(kinds []int, what string, all []string, turn func(o *api.Op, s string)) []row {
	var rows []row
	for _, s := range all {
		rows = append(rows, row{what, kinds, func(o *api.Op) { turn(o, s) }})
	}
	return rows
}

func numbers(kinds []int, what string, all []int, turn func(o *api.Op, x int)) []row {
	var rows []row
	for _, x := range all {
		rows = append(rows, row{what, kinds, func(o *api.Op) { turn(o, x) }})
	}
	return rows
}

func dots(kinds []int, what string, all []api.Dot, turn func(o *api.Op, d api.Dot)) []row {
	var rows []row
	for _, d := range all {
		rows = append(rows, row{what, kinds, func(o *api.Op) { turn(o, d) }})
	}
	return rows
}

// The kinds that name a Value, a Ref.
var (
	valued = []int{api.OpSet, api.OpPut, api.OpInsert}
	refs   = []int{api.OpInsert, api.OpErase}
)

func only(kind int) []int {
	return []int{kind}
}

// without are all Kinds but those.
func without(kinds ...int) []int {
	return slices.DeleteFunc(slices.Clone(allKinds), func(k int) bool { return slices.Contains(kinds, k) })
}

var (
	fineNames = []string{"a", "z", "A", "Z", "_", "__", "_9", "a0", "a9", "A9z_", "aZ", strings.Repeat("n", 31), strings.Repeat("n", 32), strings.Repeat("_", 32), "q" + strings.Repeat("8", 31)}
	badNames  = []string{"", "9", "0a", "9_", " ", "a b", "a-b", "a.b", "-a", "$a", "a\x00", "\x00", "\xff", "a\xff", "\u00e9", "a\u00e9", "a\n", "@", "[", "`", "{", "a/", "a:", "a@", "a[", "a`", "a{", strings.Repeat("n", 33), strings.Repeat("n", 34), strings.Repeat("n", 256), strings.Repeat("n", 65536)}
	fineIds   = []string{"i", "\x00", "\xff", "9", " ", "\"", "a b\n", strings.Repeat("x", 127), strings.Repeat("x", 128), strings.Repeat("x", 255), strings.Repeat("x", 256), strings.Repeat("\xff", 256), strings.Repeat("\u00e9", 128)}
	badIds    = []string{"", strings.Repeat("x", 257), strings.Repeat("x", 258), strings.Repeat("x", 512), strings.Repeat("\u00e9", 129), strings.Repeat("x", 65536)}
)

// fineRows are turns behind which an operation may be for three nodes.
func fineRows() []row {
	rows := []row{
		{"plain", allKinds, func(o *api.Op) {}},
		{"Seq 1", allKinds, func(o *api.Op) { o.Dot.Seq, o.Deps[1] = 1, 0 }},
		{"Seq MaxSeq", allKinds, func(o *api.Op) { o.Dot.Seq, o.Deps[1] = 1048575, 1048574 }},
		{"Deps MaxSeq", allKinds, func(o *api.Op) { o.Deps[0], o.Deps[2] = 1048575, 1048575 }},
		{"Deps zero", without(api.OpDrop, api.OpInsert, api.OpErase), func(o *api.Op) { o.Deps[0], o.Deps[2] = 0, 0 }},
		{"no Dots", only(api.OpDrop), func(o *api.Op) { o.Dots = nil }},
		{"Dots of no length", without(), func(o *api.Op) { o.Dots = append(make([]api.Dot, 0, 4), o.Dots...) }},
		{"one Dot", only(api.OpDrop), func(o *api.Op) { o.Dots = o.Dots[:1] }},
		{"Dots of one Node", only(api.OpDrop), func(o *api.Op) { o.Dots = []api.Dot{dotOf(0, 1), dotOf(0, 2), dotOf(0, 7)} }},
		{"Dots of each Node", only(api.OpDrop), func(o *api.Op) { o.Dots = []api.Dot{dotOf(0, 7), dotOf(1, 1), dotOf(1, 299), dotOf(2, 1)} }},
		{"Seqs that fall", only(api.OpDrop), func(o *api.Op) { o.Dots = []api.Dot{dotOf(0, 7), dotOf(1, 6), dotOf(2, 1)} }},
		{"Dots of its own", only(api.OpDrop), func(o *api.Op) { o.Dots = []api.Dot{dotOf(1, 299)} }},
		{"63 Dots", only(api.OpDrop), func(o *api.Op) { o.Deps[0], o.Dots = 64, many(63) }},
		{"MaxDots Dots", only(api.OpDrop), func(o *api.Op) { o.Deps[0], o.Dots = 64, many(64) }},
		{"no Ref", only(api.OpInsert), func(o *api.Op) { o.Ref = api.Dot{} }},
	}
	rows = append(rows, numbers(allKinds, "Time", []int{1, 2, 127, 128, 16777214, 16777215}, func(o *api.Op, x int) { o.Time = x })...)
	rows = append(rows, texts(allKinds, "Type", fineNames, func(o *api.Op, s string) { o.Type = s })...)
	rows = append(rows, texts(allKinds, "Field", fineNames, func(o *api.Op, s string) { o.Field = s })...)
	rows = append(rows, texts(allKinds, "Id", fineIds, func(o *api.Op, s string) { o.Id = s })...)
	rows = append(rows, texts(valued, "Value", append([]string{""}, fineIds...), func(o *api.Op, s string) { o.Value = s })...)
	parts := []int{0, 1, -1, 2, -2, 63, 64, -64, -65, 1 << 32, -1 << 32, 1099511627775, 1099511627776, -1099511627775, -1099511627776}
	for _, re := range parts {
		rows = append(rows, numbers(only(api.OpAdd), "Num", parts, func(o *api.Op, im int) { o.Num = api.Pair{Re: re, Im: im} })...)
	}
	there := []api.Dot{dotOf(0, 1), dotOf(0, 6), dotOf(0, 7), dotOf(1, 1), dotOf(1, 298), dotOf(1, 299), dotOf(2, 1), dotOf(2, 4)}
	rows = append(rows, dots(refs, "Ref", there, func(o *api.Op, d api.Dot) { o.Ref = d })...)
	rows = append(rows, dots(only(api.OpDrop), "Dots", there, func(o *api.Op, d api.Dot) { o.Dots = []api.Dot{d} })...)
	return rows
}

// notThere are dots that plain's Deps have not.
func notThere() []api.Dot {
	ds := []api.Dot{dotOf(0, 0), dotOf(1, 0), dotOf(2, 0), dotOf(0, 8), dotOf(0, 299), dotOf(1, 300), dotOf(1, 301), dotOf(2, 5), dotOf(2, 7), dotOf(3, 1), dotOf(3, 0), dotOf(16, 1)}
	for _, x := range far {
		ds = append(ds, dotOf(x, 1), dotOf(0, x), dotOf(1, x), dotOf(x, x))
	}
	return ds
}

// badRows are turns behind which an operation may not be for three nodes, each by one
// part that its Kind names; those of strayRows by one that it does not.
func badRows() []row {
	rows := []row{
		{"Seq one less", allKinds, func(o *api.Op) { o.Dot.Seq-- }},
		{"Seq one more", allKinds, func(o *api.Op) { o.Dot.Seq++ }},
		{"Seq 0", allKinds, func(o *api.Op) { o.Dot.Seq, o.Deps[1] = 0, -1 }},
		{"Seq 0, Deps 0", allKinds, func(o *api.Op) { o.Dot.Seq, o.Deps[1] = 0, 0 }},
		{"Seq MaxSeq + 1", allKinds, func(o *api.Op) { o.Dot.Seq, o.Deps[1] = 1048576, 1048575 }},
		{"Deps one less", allKinds, func(o *api.Op) { o.Deps[1]-- }},
		{"Deps one more", allKinds, func(o *api.Op) { o.Deps[1]++ }},
		{"Deps 0", allKinds, func(o *api.Op) { o.Deps[1] = 0 }},
		{"Deps above MaxSeq", allKinds, func(o *api.Op) { o.Deps[0] = 1048576 }},
		{"last of Deps above MaxSeq", allKinds, func(o *api.Op) { o.Deps[2] = 1048576 }},
		{"Dots of one dot twice", only(api.OpDrop), func(o *api.Op) { o.Dots = []api.Dot{dotOf(0, 2), dotOf(0, 2)} }},
		{"the last two alike", only(api.OpDrop), func(o *api.Op) { o.Dots = []api.Dot{dotOf(0, 2), dotOf(0, 3), dotOf(0, 3)} }},
		{"Nodes that fall", only(api.OpDrop), func(o *api.Op) { o.Dots = []api.Dot{dotOf(1, 1), dotOf(0, 2)} }},
		{"Nodes that fall, Seqs alike", only(api.OpDrop), func(o *api.Op) { o.Dots = []api.Dot{dotOf(1, 1), dotOf(0, 1)} }},
		{"Seqs that fall", only(api.OpDrop), func(o *api.Op) { o.Dots = []api.Dot{dotOf(0, 2), dotOf(0, 1)} }},
		{"the last one falls", only(api.OpDrop), func(o *api.Op) { o.Dots = []api.Dot{dotOf(0, 2), dotOf(1, 1), dotOf(0, 3)} }},
		{"MaxDots + 1 Dots", only(api.OpDrop), func(o *api.Op) { o.Deps[0], o.Dots = 65, many(65) }},
		{"many Dots", only(api.OpDrop), func(o *api.Op) { o.Deps[0], o.Dots = 300, many(256) }},
		{"no Ref", only(api.OpErase), func(o *api.Op) { o.Ref = api.Dot{} }},
	}
	for _, x := range far {
		rows = append(rows,
			row{"Node", allKinds, func(o *api.Op) { o.Dot.Node = x }},
			row{"Seq", allKinds, func(o *api.Op) { o.Dot.Seq = x }},
			row{"Seq with its Deps", allKinds, func(o *api.Op) { o.Dot.Seq, o.Deps[1] = x, x-1 }},
			row{"Deps", allKinds, func(o *api.Op) { o.Deps[0] = x }},
			row{"last of Deps", allKinds, func(o *api.Op) { o.Deps[2] = x }},
		)
	}
	rows = append(rows, numbers(allKinds, "Node", []int{3, 4, 15, 16, 17}, func(o *api.Op, x int) { o.Dot.Node = x })...)
	rows = append(rows, numbers(allKinds, "Time", append([]int{0, 16777216, 16777217}, far...), func(o *api.Op, x int) { o.Time = x })...)
	rows = append(rows, texts(allKinds, "Type", badNames, func(o *api.Op, s string) { o.Type = s })...)
	rows = append(rows, texts(allKinds, "Field", badNames, func(o *api.Op, s string) { o.Field = s })...)
	rows = append(rows, texts(allKinds, "Id", badIds, func(o *api.Op, s string) { o.Id = s })...)
	rows = append(rows, texts(valued, "Value", badIds[1:], func(o *api.Op, s string) { o.Value = s })...)
	parts := []int{1099511627777, -1099511627777, 1099511627778, -1099511627778, 1 << 52, 1<<61 - 1, -1 << 61, math.MaxInt, math.MaxInt - 1, math.MinInt, math.MinInt + 1}
	rows = append(rows, numbers(only(api.OpAdd), "Re", parts, func(o *api.Op, x int) { o.Num.Re = x })...)
	rows = append(rows, numbers(only(api.OpAdd), "Im", parts, func(o *api.Op, x int) { o.Num.Im = x })...)
	rows = append(rows, dots(refs, "Ref", notThere()[1:], func(o *api.Op, d api.Dot) { o.Ref = d })...)
	rows = append(rows, dots(only(api.OpDrop), "Dots", notThere(), func(o *api.Op, d api.Dot) { o.Dots = []api.Dot{d} })...)
	rows = append(rows, dots(only(api.OpDrop), "the last of Dots", notThere()[3:], func(o *api.Op, d api.Dot) { o.Dots = append(o.Dots, d) })...)
	return rows
}

// strayRows are turns behind which there is something in a part that the Kind does not
// name.
func strayRows() []row {
	unvalued, unnumbered := without(valued...), without(api.OpAdd)
	undropped, unreferred := without(api.OpDrop), without(refs...)
	rows := texts(unvalued, "Value", []string{"v", "\x00", " ", strings.Repeat("v", 256), strings.Repeat("v", 257)}, func(o *api.Op, s string) { o.Value = s })
	for _, x := range []int{1, -1, 1 << 32, 1099511627776, -1099511627776, math.MinInt, math.MaxInt} {
		rows = append(rows,
			row{"Re", unnumbered, func(o *api.Op) { o.Num.Re = x }},
			row{"Im", unnumbered, func(o *api.Op) { o.Num.Im = x }},
			row{"Re and Im", unnumbered, func(o *api.Op) { o.Num = api.Pair{Re: x, Im: -x} }},
		)
	}
	stray := append(notThere()[1:], dotOf(0, 1), dotOf(0, 7), dotOf(2, 4))
	rows = append(rows, dots(unreferred, "Ref", stray, func(o *api.Op, d api.Dot) { o.Ref = d })...)
	rows = append(rows, dots(undropped, "Dots", append(stray, api.Dot{}), func(o *api.Op, d api.Dot) { o.Dots = []api.Dot{d} })...)
	return append(rows, row{"MaxDots Dots", undropped, func(o *api.Op) { o.Deps[0], o.Dots = 64, many(64) }})
}
