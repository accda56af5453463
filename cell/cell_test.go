package cell

import (
	"math"
	"reflect"
	"slices"
	"strings"
	"sync"
	"testing"

	"tattle/api"
)

// short keeps what a failing test tells short.
func short(c api.Cell) api.Cell {
	if len(c.Value) > 40 {
		c.Value = c.Value[:40]
	}
	c.Entries = c.Entries[:min(len(c.Entries), 5)]
	c.Elems = c.Elems[:min(len(c.Elems), 5)]
	return c
}

func wantMay(t *testing.T, what string, c api.Cell, nodes int, want bool) {
	t.Helper()
	if got := May(c, nodes); got != want {
		t.Errorf("P12.1: %s: May(%v, %d) = %v, want %v", what, short(c), nodes, got, want)
	}
}

func TestNumbersAreTheDocuments(t *testing.T) {
	all := [][2]int{
		{api.CellLww, 0}, {api.CellCount, 1}, {api.CellSet, 2}, {api.CellList, 3}, {int(api.OK), 0},
		{int(api.ErrCellForm), 1200}, {int(api.ErrCellKind), 1201}, {int(api.ErrLwwForm), 700}, {int(api.ErrCountForm), 800},
		{int(api.ErrOrsetForm), 900}, {int(api.ErrRgaForm), 1000}, {int(api.ErrRgaRange), 1001},
		{api.MaxNodes, 16}, {api.MaxSeq, 1048575}, {api.MaxTime, 16777215}, {api.MaxPart, 4503599627370496},
		{api.MaxNum, 1099511627776}, {api.MaxValue, 256}, {api.MaxDots, 64},
	}
	for i, n := range all {
		if n[0] != n[1] {
			t.Errorf("number %d: %d, want %d", i, n[0], n[1])
		}
	}
}

// P12.1, May.

func TestMayOfWhatMayBe(t *testing.T) {
	each(fineRows(), func(what string, c api.Cell) { wantMay(t, what, c, 3, true) })
}

func TestMayOfWhatMayNotBe(t *testing.T) {
	each(badRows(), func(what string, c api.Cell) { wantMay(t, what, c, 3, false) })
}

func TestMayOfPartsThatTheKindDoesNotName(t *testing.T) {
	each(strayRows(), func(what string, c api.Cell) { wantMay(t, what, c, 3, false) })
}

func TestMayOfKindsThatAreNone(t *testing.T) {
	for _, kind := range noKinds {
		for _, like := range allKinds {
			c := plain(like)
			c.Kind = kind
			wantMay(t, "Kind", c, 3, false)
		}
		wantMay(t, "Kind", plain(kind), 3, false)
	}
}

// A cell of one Kind is none of another Kind, unless nothing stands in it.
func TestMayOfOtherKinds(t *testing.T) {
	for _, like := range allKinds {
		for _, kind := range allKinds {
			c := plain(like)
			c.Kind = kind
			wantMay(t, "Kind", c, 3, kind == like)
			wantMay(t, "nothing in it", api.Cell{Kind: kind, Seen: []int{1, 2, 3}}, 3, true)
		}
	}
}

// emptyOf is a cell of n nodes in which nothing stands.
func emptyOf(kind, n int) api.Cell {
	return api.Cell{Kind: kind, Seen: make([]int, max(n, 0))}
}

func TestMayOfEachNumberOfNodes(t *testing.T) {
	for _, kind := range allKinds {
		for n := -2; n < 40; n++ {
			for nodes := -2; nodes < 40; nodes++ {
				wantMay(t, "nodes", emptyOf(kind, n), nodes, n == nodes && n >= 1 && n <= 16)
			}
		}
		for _, nodes := range noNodes {
			wantMay(t, "nodes", plain(kind), nodes, false)
		}
	}
}

// The last Node of each cluster, in a stamp and in dots, and the one behind it.
func TestMayOfTheLastNode(t *testing.T) {
	for n := 1; n <= 16; n++ {
		for node := range 18 {
			lww, set, list := emptyOf(api.CellLww, n), emptyOf(api.CellSet, n), emptyOf(api.CellList, n)
			for i := range n {
				set.Seen[i], list.Seen[i] = 5, 5
			}
			lww.Set, lww.Stamp = true, api.Stamp{Time: 1, Node: node}
			set.Entries = []api.Entry{entryOf(node, 5, "v")}
			list.Elems = []api.Elem{elemOf(node, 5, 1, "v")}
			for _, c := range []api.Cell{lww, set, list} {
				wantMay(t, "Node", c, n, node < n)
			}
		}
	}
}

func TestMayOfTheZeroCell(t *testing.T) {
	for nodes := -1; nodes < 18; nodes++ {
		wantMay(t, "zero", api.Cell{}, nodes, false)
	}
}

// P12.1, New.

func wantNewRefused(t *testing.T, kind, nodes int, want api.Errno) {
	t.Helper()
	if c, err := New(kind, nodes); !reflect.DeepEqual(c, api.Cell{}) || err != want {
		t.Errorf("P12.1: New(%d, %d) = %v, %d, want %d", kind, nodes, c, err, want)
	}
}

func TestNewOfEachKind(t *testing.T) {
	for _, kind := range allKinds {
		for n := 1; n <= 16; n++ {
			c, err := New(kind, n)
			if !same(c, emptyOf(kind, n)) || err != api.OK {
				t.Errorf("P12.1: New(%d, %d) = %v, %d", kind, n, c, err)
			}
			wantMay(t, "new", c, n, true)
		}
	}
}

func TestNewOfWrongNumbersOfNodes(t *testing.T) {
	for _, kind := range allKinds {
		for _, nodes := range noNodes {
			wantNewRefused(t, kind, nodes, api.ErrCellForm)
		}
	}
}

// R6: the kind is asked for ahead of the number of nodes.
func TestNewOfKindsThatAreNone(t *testing.T) {
	for _, kind := range noKinds {
		for _, nodes := range append([]int{1, 3, 16}, noNodes...) {
			wantNewRefused(t, kind, nodes, api.ErrCellKind)
		}
	}
}

func TestNewCellsShareNothing(t *testing.T) {
	for _, kind := range allKinds {
		first, _ := New(kind, 3)
		second, _ := New(kind, 3)
		room := first.Seen[:cap(first.Seen)]
		for i := range room {
			room[i] = 77
		}
		third, _ := New(kind, 3)
		if !same(second, emptyOf(kind, 3)) || !same(third, emptyOf(kind, 3)) {
			t.Errorf("R4: %v, %v", second, third)
		}
	}
}

// P12.2, Stable.

func wantStable(t *testing.T, c api.Cell, least []int, want bool) {
	t.Helper()
	if got := Stable(c, least); got != want {
		t.Errorf("P12.2: Stable(%v, %v) = %v, want %v", short(c), least, got, want)
	}
}

func TestStable(t *testing.T) {
	for _, kind := range allKinds {
		c := plain(kind)
		wantStable(t, c, []int{7, 299, 4}, true)
		wantStable(t, c, []int{8, 300, 5}, true)
		wantStable(t, c, []int{7, 299, 1048575}, true)
		wantStable(t, c, []int{6, 299, 4}, false)
		wantStable(t, c, []int{7, 298, 4}, false)
		wantStable(t, c, []int{7, 299, 3}, false)
		wantStable(t, c, []int{1048575, 298, 1048575}, false)
		wantStable(t, c, []int{0, 0, 0}, false)
		wantStable(t, emptyOf(kind, 3), []int{0, 0, 0}, true)
		wantStable(t, emptyOf(kind, 1), []int{0}, true)
		wantStable(t, emptyOf(kind, 16), make([]int, 16), true)
		wantStable(t, emptyOf(kind, 17), make([]int, 17), false)
	}
}

// Vectors that may not be, or of another number of nodes, are under none.
func TestStableOfOtherVectors(t *testing.T) {
	for _, kind := range allKinds {
		c := plain(kind)
		for _, least := range [][]int{nil, {}, {7}, {7, 299}, {7, 299, 4, 0}, {9, 999, 9, 9}, {7, 299, 1048576}, {7, 299, math.MaxInt}} {
			wantStable(t, c, least, false)
		}
		c.Seen = []int{-1, 0, 0}
		wantStable(t, c, []int{7, 299, 4}, false)
		c.Seen = []int{0, 0, -1}
		wantStable(t, c, []int{0, 0, -1}, false)
		c.Seen = []int{1048576, 0, 0}
		wantStable(t, c, []int{1048576, 0, 0}, false)
		c.Seen = nil
		wantStable(t, c, nil, false)
		wantStable(t, c, []int{7, 299, 4}, false)
	}
}

// The promise names Seen alone: what else stands in the cell has no part in it.
func TestStableLooksAtSeenAlone(t *testing.T) {
	for _, kind := range append(noKinds, allKinds...) {
		c := full(kind)
		wantStable(t, c, []int{9, 10, 3}, true)
		wantStable(t, c, []int{9, 9, 3}, false)
	}
}

// R4.

// full is a cell of that kind in which everything stands, with spare room behind each
// list.
func full(kind int) api.Cell {
	entries := []api.Entry{entryOf(0, 2, "one"), entryOf(1, 4, "two"), entryOf(2, 1, "one"), {Value: "spare"}, {Value: "spare"}}
	elems := []api.Elem{elemOf(0, 6, 7, "elem"), goneOf(1, 8, 8), elemOf(1, 9, 2, "end"), {Value: "spare"}, {Value: "spare"}}
	seen := []int{9, 10, 3, 77, 78}
	return api.Cell{
		Kind:    kind,
		Set:     true,
		Stamp:   api.Stamp{Time: 500, Node: 1},
		Value:   "old",
		Num:     api.Pair{Re: 13, Im: 14},
		Entries: entries[:3],
		Elems:   elems[:3],
		Seen:    seen[:3],
	}
}

// own is full without the parts that the kind does not name, so that it may be.
func own(kind int) api.Cell {
	c, all := plain(kind), full(kind)
	c.Seen = all.Seen
	switch kind {
	case api.CellLww:
		c.Stamp, c.Value = all.Stamp, all.Value
	case api.CellCount:
		c.Num = all.Num
	case api.CellSet:
		c.Entries = all.Entries
	case api.CellList:
		c.Elems = all.Elems
	}
	return c
}

// wantUntouched wants c to be was, the spare room of own and of full too.
func wantUntouched(t *testing.T, c, was api.Cell) {
	t.Helper()
	if !reflect.DeepEqual(c, was) {
		t.Errorf("R4: the argument is %v, want %v", c, was)
	}
	spoilt := func() { t.Errorf("R4: the spare room of %v is touched", c) }
	if !slices.Equal(c.Seen[:5], []int{9, 10, 3, 77, 78}) {
		spoilt()
	}
	if c.Entries != nil && !slices.Equal(c.Entries[3:5], []api.Entry{{Value: "spare"}, {Value: "spare"}}) {
		spoilt()
	}
	if c.Elems != nil && !slices.Equal(c.Elems[3:5], []api.Elem{{Value: "spare"}, {Value: "spare"}}) {
		spoilt()
	}
}

func TestArgumentsStay(t *testing.T) {
	for _, kind := range append(noKinds, allKinds...) {
		c := full(kind)
		room := []int{9, 10, 3, 4}
		for _, nodes := range append([]int{1, 2, 3, 4, 16}, noNodes...) {
			May(c, nodes)
			Stable(c, room[:3])
			Read(c)
		}
		wantUntouched(t, c, full(kind))
		if !slices.Equal(room, []int{9, 10, 3, 4}) {
			t.Errorf("R4: least is %v", room)
		}
	}
	for _, kind := range allKinds {
		c := own(kind)
		wantMay(t, "own", c, 3, true)
		Read(c)
		wantUntouched(t, c, own(kind))
	}
}

// R5.

func TestSecondCallsAnswerAlike(t *testing.T) {
	for range 3 {
		for _, kind := range allKinds {
			wantMay(t, "plain", plain(kind), 3, true)
			wantMay(t, "other nodes", plain(kind), 4, false)
			wantNewRefused(t, kind, 0, api.ErrCellForm)
			wantRead(t, plain(kind), plainText(kind))
		}
	}
}

func TestSeveralGoroutines(t *testing.T) {
	cells := []api.Cell{own(0), own(1), own(2), own(3)}
	ops := []api.Op{opOf(0), opOf(1), opOf(2), opOf(3), opOf(4), opOf(5)}
	var all sync.WaitGroup
	for range 8 {
		all.Go(func() {
			for i := range 600 {
				c, o := cells[i%4], ops[i%6]
				wantMay(t, "own", c, 3, true)
				wantStable(t, c, []int{9, 10, 3}, true)
				Read(c)
				next, err := Apply(c, o, 3)
				if (err == api.OK) != (kindOf(o.Kind) == c.Kind) || err == api.OK && next.Seen[1] != 11 {
					t.Errorf("Apply(%v, %v) = %v, %d", c, o, next, err)
				}
			}
		})
	}
	all.Wait()
}

// R1: great cells end soon.
func TestGreatCells(t *testing.T) {
	const n = 1 << 20
	set, list := api.Cell{Kind: api.CellSet, Seen: []int{1048575, 1048575}}, api.Cell{Kind: api.CellList, Seen: []int{1048575, 1048575}}
	for i := range n {
		set.Entries = append(set.Entries, entryOf(i/(n/2), 1+i%(n/2), "v"))
		list.Elems = append(list.Elems, elemOf(i%2, 1048575-i/2, 1, ""))
	}
	for _, c := range []api.Cell{set, list} {
		wantMay(t, "great", c, 2, true)
	}
	wantRead(t, set, `["v"]`)
	wantRead(t, list, "["+strings.Repeat(`"",`, n-1)+`""]`)
	set.Entries[n-1].Dot = set.Entries[n-2].Dot
	list.Elems[n-1].Dot = list.Elems[0].Dot
	for _, c := range []api.Cell{set, list} {
		wantMay(t, "two alike", c, 2, false)
	}
	text := strings.Repeat("v", 1<<24)
	for _, kind := range append(noKinds, allKinds...) {
		c := api.Cell{Kind: kind, Set: true, Stamp: api.Stamp{Time: 1}, Value: text, Entries: set.Entries, Elems: list.Elems, Seen: make([]int, 1<<20)}
		wantMay(t, "great", c, 1<<20, false)
		wantMay(t, "great", c, 2, false)
	}
}
