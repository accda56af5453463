package cell

import (
	"math"
	"reflect"
	"slices"
	"strings"
	"testing"
	"unsafe"

	"tattle/api"
	"tattle/op"
)

// opOf is an operation of that Kind that may be for three nodes, and that may come to
// own's cell: its Dot is right behind that cell's Seen.
func opOf(kind int) api.Op {
	o := api.Op{Dot: dotOf(1, 11), Time: 600, Deps: []int{9, 10, 3}, Kind: kind, Type: "T", Id: "i", Field: "f"}
	switch kind {
	case api.OpSet, api.OpPut:
		o.Value = "new"
	case api.OpAdd:
		o.Num = api.Pair{Re: -20, Im: 6}
	case api.OpDrop:
		o.Dots = []api.Dot{dotOf(0, 2), dotOf(0, 9), dotOf(1, 4)}
	case api.OpInsert:
		o.Value, o.Ref = "new", dotOf(0, 6)
	case api.OpErase:
		o.Ref = dotOf(0, 6)
	}
	return o
}

var opKinds = []int{api.OpSet, api.OpAdd, api.OpPut, api.OpDrop, api.OpInsert, api.OpErase}

// kindOf is the Kind of cells that operations of that Kind change.
func kindOf(kind int) int {
	return []int{api.CellLww, api.CellCount, api.CellSet, api.CellSet, api.CellList, api.CellList}[kind]
}

// changed is c with a turn, and with Seen of the operation's Node.
func changed(c api.Cell, o api.Op, turn func(c *api.Cell)) api.Cell {
	c.Seen = slices.Clone(c.Seen)
	c.Seen[o.Dot.Node] = max(c.Seen[o.Dot.Node], o.Dot.Seq)
	turn(&c)
	return c
}

func stays(*api.Cell) {}

func wantApply(t *testing.T, c api.Cell, o api.Op, want api.Cell) {
	t.Helper()
	nodes := len(o.Deps)
	got, err := Apply(c, o, nodes)
	if !same(got, want) || err != api.OK {
		t.Errorf("P12.2: Apply(%v, %v) = %v, %d, want %v", short(c), o, short(got), err, short(want))
	}
	wantMay(t, "applied", got, nodes, true)
}

// wantRefused wants nothing beside the error (R2).
func wantRefused(t *testing.T, what string, c api.Cell, o api.Op, nodes int, want api.Errno) {
	t.Helper()
	if got, err := Apply(c, o, nodes); !reflect.DeepEqual(got, api.Cell{}) || err != want {
		t.Errorf("P12.2: %s: Apply(%v, %v, %d) = %v, %d, want %d", what, short(c), o, nodes, short(got), err, want)
	}
}

// P12.2, Apply of an operation of each Kind.

func TestApplyOfSet(t *testing.T) {
	o := opOf(api.OpSet)
	written := func(c *api.Cell) { c.Set, c.Stamp, c.Value = true, api.Stamp{Time: 600, Node: 1}, "new" }
	empty := emptyOf(api.CellLww, 3)
	wantApply(t, empty, o, changed(empty, o, written))
	elder := own(api.CellLww)
	wantApply(t, elder, o, changed(elder, o, written))
	for _, node := range []int{0, 1, 2} {
		for _, time := range []int{1, 599, 600, 601, 16777215} {
			c := own(api.CellLww)
			c.Stamp = api.Stamp{Time: time, Node: node}
			turn := stays
			if time < 600 || time == 600 && node < 1 {
				turn = written
			}
			wantApply(t, c, o, changed(c, o, turn))
		}
	}
}

// The stamp is of the operation's Time and of its Dot's Node, at the limits of both.
func TestApplyOfSetAtTheLimits(t *testing.T) {
	for n := 1; n <= 16; n++ {
		for node := range n {
			for _, time := range []int{1, 16777215} {
				for _, value := range []string{"", "v", strings.Repeat("v", 256)} {
					o := api.Op{Dot: dotOf(node, 1), Time: time, Deps: make([]int, n), Type: "T", Id: "i", Field: "f", Value: value}
					c := emptyOf(api.CellLww, n)
					wantApply(t, c, o, changed(c, o, func(c *api.Cell) { c.Set, c.Stamp, c.Value = true, api.Stamp{Time: time, Node: node}, value }))
				}
			}
		}
	}
}

func TestApplyOfAdd(t *testing.T) {
	o := opOf(api.OpAdd)
	c := own(api.CellCount)
	wantApply(t, c, o, changed(c, o, func(c *api.Cell) { c.Num = api.Pair{Re: -7, Im: 20} }))
	empty := emptyOf(api.CellCount, 3)
	wantApply(t, empty, o, changed(empty, o, func(c *api.Cell) { c.Num = api.Pair{Re: -20, Im: 6} }))
	o.Num = api.Pair{}
	wantApply(t, c, o, changed(c, o, stays))
	c.Num, o.Num = api.Pair{Re: 1<<52 - 1<<40, Im: -1<<52 + 1<<40}, api.Pair{Re: 1 << 40, Im: -1 << 40}
	wantApply(t, c, o, changed(c, o, func(c *api.Cell) { c.Num = api.Pair{Re: 1 << 52, Im: -1 << 52} }))
}

func TestApplyOfPut(t *testing.T) {
	o := opOf(api.OpPut)
	c := own(api.CellSet)
	wantApply(t, c, o, changed(c, o, func(c *api.Cell) {
		c.Entries = []api.Entry{entryOf(0, 2, "one"), entryOf(1, 4, "two"), entryOf(1, 11, "new"), entryOf(2, 1, "one")}
	}))
	empty := emptyOf(api.CellSet, 3)
	wantApply(t, empty, o, changed(empty, o, func(c *api.Cell) { c.Entries = []api.Entry{entryOf(1, 11, "new")} }))
	for _, value := range []string{"", "one", strings.Repeat("v", 256)} {
		o.Value = value
		wantApply(t, empty, o, changed(empty, o, func(c *api.Cell) { c.Entries = []api.Entry{entryOf(1, 11, value)} }))
	}
}

func TestApplyOfDrop(t *testing.T) {
	o := opOf(api.OpDrop)
	c := own(api.CellSet)
	wantApply(t, c, o, changed(c, o, func(c *api.Cell) { c.Entries = []api.Entry{entryOf(2, 1, "one")} }))
	o.Dots = nil
	wantApply(t, c, o, changed(c, o, stays))
	o.Dots = []api.Dot{dotOf(0, 3), dotOf(2, 2)}
	wantApply(t, c, o, changed(c, o, stays))
	o.Dots = []api.Dot{dotOf(0, 2), dotOf(1, 4), dotOf(2, 1)}
	wantApply(t, c, o, changed(c, o, func(c *api.Cell) { c.Entries = nil }))
	empty := emptyOf(api.CellSet, 3)
	wantApply(t, empty, o, changed(empty, o, stays))
}

func TestApplyOfInsert(t *testing.T) {
	o := opOf(api.OpInsert)
	c := own(api.CellList)
	a, gone, b, new := c.Elems[0], c.Elems[1], c.Elems[2], elemOf(1, 11, 600, "new")
	row := func(es ...api.Elem) func(c *api.Cell) { return func(c *api.Cell) { c.Elems = es } }
	wantApply(t, c, o, changed(c, o, row(a, new, gone, b)))
	o.Ref = api.Dot{}
	wantApply(t, c, o, changed(c, o, row(new, a, gone, b)))
	o.Ref = dotOf(1, 8)
	wantApply(t, c, o, changed(c, o, row(a, gone, new, b)))
	o.Ref = dotOf(1, 9)
	wantApply(t, c, o, changed(c, o, row(a, gone, b, new)))
	// An element of an early stamp goes past later ones.
	o.Ref, o.Time, new.Time = api.Dot{}, 3, 3
	wantApply(t, c, o, changed(c, o, row(a, gone, new, b)))
	o.Time, new.Time = 2, 2
	wantApply(t, c, o, changed(c, o, row(a, gone, new, b)))
	o.Time, new.Time = 1, 1
	wantApply(t, c, o, changed(c, o, row(a, gone, b, new)))
	o.Value, new.Value, o.Time, new.Time = strings.Repeat("v", 256), strings.Repeat("v", 256), 16777215, 16777215
	empty := emptyOf(api.CellList, 3)
	wantApply(t, empty, o, changed(empty, o, row(new)))
	o.Value, new.Value = "", ""
	wantApply(t, empty, o, changed(empty, o, row(new)))
}

func TestApplyOfErase(t *testing.T) {
	o := opOf(api.OpErase)
	c := own(api.CellList)
	wantApply(t, c, o, changed(c, o, func(c *api.Cell) { c.Elems = []api.Elem{goneOf(0, 6, 7), c.Elems[1], c.Elems[2]} }))
	o.Ref = dotOf(1, 9)
	wantApply(t, c, o, changed(c, o, func(c *api.Cell) { c.Elems = []api.Elem{c.Elems[0], c.Elems[1], goneOf(1, 9, 2)} }))
	o.Ref = dotOf(1, 8)
	wantApply(t, c, o, changed(c, o, stays))
}

// Seen's number of the Dot's Node is at least Seq: one below it rises, one that is there
// and one above it stay, and so do the others.
func TestApplyAndSeen(t *testing.T) {
	for _, kind := range opKinds {
		o := opOf(kind)
		for _, was := range []int{9, 10, 11, 12, 1048575} {
			c := own(kindOf(kind))
			c.Seen = []int{8, was, 2}
			if kind == api.OpErase || kind == api.OpInsert {
				c.Elems = c.Elems[:1]
			}
			if kind == api.OpDrop || kind == api.OpPut {
				c.Entries = c.Entries[:1]
			}
			got, err := Apply(c, o, 3)
			if want := []int{8, max(was, 11), 2}; !slices.Equal(got.Seen, want) || err != api.OK {
				t.Errorf("P12.2: Apply(%v, %v): Seen %v, %d, want %v", c, o, got.Seen, err, want)
			}
		}
	}
}

func TestApplyOfEachNode(t *testing.T) {
	for n := 1; n <= 16; n++ {
		for node := range n {
			for _, kind := range opKinds {
				o := opOf(kind)
				o.Dot, o.Deps = dotOf(node, 8), slices.Repeat([]int{7}, n)
				c := emptyOf(kindOf(kind), n)
				c.Seen[0] = 7
				o.Dots = nil
				if kind == api.OpErase {
					o.Ref, c.Elems = dotOf(0, 7), []api.Elem{elemOf(0, 7, 2, "v")}
				}
				if kind == api.OpInsert {
					o.Ref = api.Dot{}
				}
				got, err := Apply(c, o, n)
				want := slices.Clone(c.Seen)
				want[node] = 8
				if !slices.Equal(got.Seen, want) || err != api.OK {
					t.Errorf("P12.2: Apply(%v, %v, %d): Seen %v, %d, want %v", c, o, n, got.Seen, err, want)
				}
			}
		}
	}
}

// P12.2, Apply, wrong inputs.

func TestApplyToWhatMayNotBe(t *testing.T) {
	for _, rows := range [][]row{badRows(), strayRows()} {
		each(rows, func(what string, c api.Cell) {
			for _, kind := range opKinds {
				wantRefused(t, what, c, opOf(kind), 3, api.ErrCellForm)
			}
		})
	}
	for _, kind := range noKinds {
		for _, like := range opKinds {
			wantRefused(t, "Kind", plain(kind), opOf(like), 3, api.ErrCellForm)
			c := own(kindOf(like))
			c.Kind = kind
			wantRefused(t, "Kind", c, opOf(like), 3, api.ErrCellForm)
		}
	}
}

// badOps are turns behind which no operation may be for three nodes.
func badOps() map[string]func(o *api.Op) {
	return map[string]func(o *api.Op){
		"Node -1":       func(o *api.Op) { o.Dot.Node = -1 },
		"Node 3":        func(o *api.Op) { o.Dot.Node = 3 },
		"Node far":      func(o *api.Op) { o.Dot.Node = math.MaxInt },
		"Seq 0":         func(o *api.Op) { o.Dot.Seq, o.Deps[1] = 0, 0 },
		"Seq less":      func(o *api.Op) { o.Dot.Seq-- },
		"Seq far":       func(o *api.Op) { o.Dot.Seq = math.MinInt },
		"Time 0":        func(o *api.Op) { o.Time = 0 },
		"Time far":      func(o *api.Op) { o.Time = 16777216 },
		"no Deps":       func(o *api.Op) { o.Deps = nil },
		"Deps short":    func(o *api.Op) { o.Deps = o.Deps[:2] },
		"Deps far":      func(o *api.Op) { o.Deps[0] = 1048576 },
		"no Type":       func(o *api.Op) { o.Type = "" },
		"Type no name":  func(o *api.Op) { o.Type = "9" },
		"no Id":         func(o *api.Op) { o.Id = "" },
		"no Field":      func(o *api.Op) { o.Field = "" },
		"Field no name": func(o *api.Op) { o.Field = "a b" },
		"Value long":    func(o *api.Op) { o.Value = strings.Repeat("v", 257) },
		"Num far":       func(o *api.Op) { o.Num.Re = 1<<40 + 1 },
		"Ref far":       func(o *api.Op) { o.Ref = dotOf(0, 10) },
		"Dots far":      func(o *api.Op) { o.Dots = []api.Dot{dotOf(0, 10)} },
		"Kind -1":       func(o *api.Op) { o.Kind = -1 },
		"Kind 6":        func(o *api.Op) { o.Kind = 6 },
		"Kind far":      func(o *api.Op) { o.Kind = math.MinInt },
		"Kind beyond":   func(o *api.Op) { o.Kind = math.MaxInt },
	}
}

// R6: what may not be is told ahead of another Kind.
func TestApplyOfWhatMayNotBe(t *testing.T) {
	for what, turn := range badOps() {
		for _, kind := range opKinds {
			o := opOf(kind)
			turn(&o)
			if op.May(o, 3) {
				t.Fatalf("%s: %v may be", what, o)
			}
			for _, of := range allKinds {
				wantRefused(t, what, own(of), o, 3, api.ErrCellForm)
			}
		}
	}
	for _, of := range allKinds {
		wantRefused(t, "zero", own(of), api.Op{}, 3, api.ErrCellForm)
	}
}

// The cell and the operation have to be of one cluster, of the nodes that are told.
func TestApplyOfOtherNumbersOfNodes(t *testing.T) {
	for _, kind := range opKinds {
		o, c := opOf(kind), own(kindOf(kind))
		for _, nodes := range append([]int{1, 2, 4, 16}, noNodes...) {
			wantRefused(t, "nodes", c, o, nodes, api.ErrCellForm)
			wantRefused(t, "nodes", emptyOf(c.Kind, min(nodes, 40)), o, nodes, api.ErrCellForm)
		}
		wantRefused(t, "another cluster's", emptyOf(c.Kind, 4), o, 3, api.ErrCellForm)
		wantRefused(t, "another cluster's", emptyOf(c.Kind, 4), o, 4, api.ErrCellForm)
		o.Deps = append(o.Deps, 0)
		wantRefused(t, "another cluster's", c, o, 3, api.ErrCellForm)
		wantRefused(t, "another cluster's", c, o, 4, api.ErrCellForm)
	}
}

func TestApplyToOtherKinds(t *testing.T) {
	for _, kind := range opKinds {
		for _, of := range allKinds {
			for _, c := range []api.Cell{own(of), emptyOf(of, 3)} {
				if of != kindOf(kind) {
					wantRefused(t, "Kind", c, opOf(kind), 3, api.ErrCellKind)
				}
			}
		}
	}
}

// The errors of layers 8 to 10; layer 7 refuses nothing that comes as far.
func TestApplyTellsTheErrorsOfTheLayersBelow(t *testing.T) {
	add, c := opOf(api.OpAdd), own(api.CellCount)
	for _, num := range []api.Pair{{Re: 1 << 52}, {Re: -1 << 52}, {Im: 1 << 52}, {Im: -1 << 52}} {
		c.Num = num
		for _, more := range []api.Pair{{Re: 1}, {Re: -1}, {Im: 1}, {Im: -1}} {
			add.Num = more
			if sign := num.Re*more.Re + num.Im*more.Im; sign > 0 {
				wantRefused(t, "too much", c, add, 3, api.ErrCountForm)
			} else if _, err := Apply(c, add, 3); err != api.OK {
				t.Errorf("P12.2: Apply(%v, %v): %d", c, add, err)
			}
		}
	}
	put, set := opOf(api.OpPut), own(api.CellSet)
	set.Seen[1], set.Entries[1].Dot.Seq = 11, 11
	wantRefused(t, "the Dot is there", set, put, 3, api.ErrOrsetForm)
	insert, list := opOf(api.OpInsert), own(api.CellList)
	list.Seen[1], list.Elems[2].Dot.Seq = 11, 11
	wantRefused(t, "the Dot is there", list, insert, 3, api.ErrRgaForm)
	list = own(api.CellList)
	for _, ref := range []api.Dot{dotOf(0, 5), dotOf(2, 1), dotOf(1, 10)} {
		insert.Ref = ref
		wantRefused(t, "nothing there", list, insert, 3, api.ErrRgaRange)
		erase := opOf(api.OpErase)
		erase.Ref = ref
		wantRefused(t, "nothing there", list, erase, 3, api.ErrRgaRange)
		wantRefused(t, "nothing there", emptyOf(api.CellList, 3), erase, 3, api.ErrRgaRange)
	}
}

// A set that is taken twice is one, since its stamp is no elder then.
func TestApplyTwice(t *testing.T) {
	for _, kind := range []int{api.OpSet, api.OpDrop, api.OpErase} {
		o := opOf(kind)
		once, _ := Apply(own(kindOf(kind)), o, 3)
		wantApply(t, once, o, once)
	}
}

// R4.

func TestApplyLeavesItsArguments(t *testing.T) {
	for _, kind := range opKinds {
		for _, of := range allKinds {
			c, o := own(of), roomy(opOf(kind))
			for _, nodes := range []int{3, 2, 0, math.MaxInt} {
				Apply(c, o, nodes)
			}
			wantUntouched(t, c, own(of))
			if !reflect.DeepEqual(o, roomy(opOf(kind))) || !slices.Equal(o.Deps[:5], []int{9, 10, 3, 77, 88}) || o.Dots[:cap(o.Dots)][len(o.Dots)] != dotOf(7, 7) {
				t.Errorf("R4: the operation is %v", o)
			}
		}
	}
}

// roomy is o with spare room behind its lists, and something in it.
func roomy(o api.Op) api.Op {
	deps, ds := o.Deps, o.Dots
	o.Deps = append(slices.Clone(deps), 77, 88)[:len(deps)]
	o.Dots = append(append(make([]api.Dot, 0, len(ds)+1), ds...), dotOf(7, 7))[:len(ds)]
	return o
}

// What is done to an answer, within its length and its room, is seen neither in the
// arguments nor in another answer.
func TestAnswersShareNoLists(t *testing.T) {
	for _, kind := range opKinds {
		c, o := own(kindOf(kind)), roomy(opOf(kind))
		first, _ := Apply(c, o, 3)
		second, _ := Apply(c, o, 3)
		was, _ := Apply(own(kindOf(kind)), opOf(kind), 3)
		spoil(first)
		wantUntouched(t, c, own(kindOf(kind)))
		if !same(second, was) || !reflect.DeepEqual(o, roomy(opOf(kind))) {
			t.Errorf("R4: %v, %v", second, o)
		}
	}
}

func spoil(c api.Cell) {
	for i := range c.Entries[:cap(c.Entries)] {
		c.Entries[:cap(c.Entries)][i] = api.Entry{Value: "spoilt"}
	}
	for i := range c.Elems[:cap(c.Elems)] {
		c.Elems[:cap(c.Elems)][i] = api.Elem{Value: "spoilt"}
	}
	for i := range c.Seen[:cap(c.Seen)] {
		c.Seen[:cap(c.Seen)][i] = -7
	}
}

func TestAnswersShareNoTexts(t *testing.T) {
	of := func(c api.Cell) []string {
		all := []string{c.Value}
		for _, e := range c.Entries {
			all = append(all, e.Value)
		}
		for _, e := range c.Elems {
			all = append(all, e.Value)
		}
		return all
	}
	for _, kind := range opKinds {
		c, o := own(kindOf(kind)), opOf(kind)
		first, _ := Apply(c, o, 3)
		second, _ := Apply(c, o, 3)
		for _, a := range of(first) {
			for _, b := range append(append(of(c), of(second)...), o.Value) {
				if a != "" && unsafe.StringData(a) == unsafe.StringData(b) {
					t.Errorf("R4: %q is shared", a)
				}
			}
		}
	}
}
