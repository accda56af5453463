package rga

import (
	"math"
	"reflect"
	"slices"
	"strings"
	"sync"
	"testing"
	"unsafe"

	"tattle/api"
)

// otherKinds are kinds of cells that are no lists, and kinds that are none; some look
// right once their upper bits are gone.
var otherKinds = []int{api.CellLww, api.CellCount, api.CellSet, 4, 5, 7, 9, 100, -1, -2, -3, -4, 1 << 8, 1<<8 + 3, 1 << 16, 1<<16 + 3, 1 << 32, 1<<32 + 3, math.MinInt, math.MinInt + 3, math.MaxInt - 1, math.MaxInt}

// farNodes, farSeqs and farTimes are numbers of elements that may not be.
var (
	farNodes = []int{math.MinInt, math.MinInt + 1, -1 << 32, -256, -16, -1, 16, 17, 256, 1<<8 + 3, 1 << 32, 1<<32 + 3, math.MaxInt - 1, math.MaxInt}
	farSeqs  = []int{math.MinInt, math.MinInt + 1, -1 << 32, -256, -1, 0, 1048576, 1048577, 1 << 32, 1<<32 + 3, math.MaxInt - 1, math.MaxInt}
	farTimes = []int{math.MinInt, math.MinInt + 1, -1 << 32, -256, -1, 0, 16777216, 16777217, 1 << 32, 1<<32 + 3, math.MaxInt - 1, math.MaxInt}
)

func dotOf(node, seq int) api.Dot {
	return api.Dot{Node: node, Seq: seq}
}

func elemOf(node, seq, time int, value string) api.Elem {
	return api.Elem{Dot: dotOf(node, seq), Time: time, Value: value}
}

// gone is e once it was erased.
func gone(e api.Elem) api.Elem {
	e.Gone, e.Value = true, ""
	return e
}

// listOf is a plain list of those elements.
func listOf(elems ...api.Elem) api.Cell {
	return api.Cell{Kind: api.CellList, Elems: elems, Seen: []int{1, 2}}
}

// one, two and three are full's elements.
var (
	one   = elemOf(1, 2, 30, "one")
	two   = gone(elemOf(1, 4, 20, ""))
	three = elemOf(3, 4, 10, "three")
)

// full is a cell of that kind in which everything stands, with spare room behind
// each list.
func full(kind int) api.Cell {
	entries := []api.Entry{{Dot: dotOf(5, 6), Value: "entry"}, {Value: ""}, {Value: "spare"}}
	elems := []api.Elem{one, two, three, {Value: "spare"}, {Value: "spare"}}
	seen := []int{9, 10, 77}
	return api.Cell{
		Kind:    kind,
		Set:     true,
		Stamp:   api.Stamp{Time: 500, Node: 7},
		Value:   "old",
		Num:     api.Pair{Re: 13, Im: 14},
		Entries: entries[:2],
		Elems:   elems[:3],
		Seen:    seen[:2],
	}
}

// same tells whether a and b are one cell; an empty list and nil are one.
func same(a, b api.Cell) bool {
	for _, c := range []*api.Cell{&a, &b} {
		if len(c.Entries) == 0 {
			c.Entries = nil
		}
		if len(c.Elems) == 0 {
			c.Elems = nil
		}
		if len(c.Seen) == 0 {
			c.Seen = nil
		}
	}
	return reflect.DeepEqual(a, b)
}

// with is c with other elements.
func with(c api.Cell, elems ...api.Elem) api.Cell {
	c.Elems = elems
	return c
}

// wantInsert wants c with those elements, and all else of it to stay.
func wantInsert(t *testing.T, c api.Cell, e api.Elem, ref api.Dot, elems ...api.Elem) {
	t.Helper()
	if got, err := Insert(c, e, ref); !same(got, with(c, elems...)) || err != api.OK {
		t.Errorf("P10.1: Insert(%v, %v, %v) = %v, %d, want %v", c, e, ref, got, err, elems)
	}
}

// wantInsertAt wants e at that place of c, and all else of c to stay.
func wantInsertAt(t *testing.T, c api.Cell, e api.Elem, ref api.Dot, place int) {
	t.Helper()
	wantInsert(t, c, e, ref, slices.Concat(c.Elems[:place], []api.Elem{e}, c.Elems[place:])...)
}

// wantInsertRefused wants nothing beside the error (R2).
func wantInsertRefused(t *testing.T, c api.Cell, e api.Elem, ref api.Dot, want api.Errno) {
	t.Helper()
	if got, err := Insert(c, e, ref); !same(got, api.Cell{}) || err != want {
		t.Errorf("P10.1: Insert(%v, %v, %v) = %v, %d, want error %d", c, e, ref, got, err, want)
	}
}

// wantErase wants c with those elements, and all else of it to stay.
func wantErase(t *testing.T, c api.Cell, d api.Dot, elems ...api.Elem) {
	t.Helper()
	if got, err := Erase(c, d); !same(got, with(c, elems...)) || err != api.OK {
		t.Errorf("P10.2: Erase(%v, %v) = %v, %d, want %v", c, d, got, err, elems)
	}
}

func wantEraseRefused(t *testing.T, c api.Cell, d api.Dot, want api.Errno) {
	t.Helper()
	if got, err := Erase(c, d); !same(got, api.Cell{}) || err != want {
		t.Errorf("P10.2: Erase(%v, %v) = %v, %d, want error %d", c, d, got, err, want)
	}
}

// wantCompact wants c with those elements, and all else of it to stay.
func wantCompact(t *testing.T, c api.Cell, elems ...api.Elem) {
	t.Helper()
	if got, err := Compact(c); !same(got, with(c, elems...)) || err != api.OK {
		t.Errorf("P10.2: Compact(%v) = %v, %d, want %v", c, got, err, elems)
	}
}

func wantValues(t *testing.T, c api.Cell, values ...string) {
	t.Helper()
	if got, err := Values(c); !slices.Equal(got, values) || err != api.OK {
		t.Errorf("P10.3: Values(%v) = %q, %d, want %q", c, got, err, values)
	}
}

// wantAt wants just those dots, and none ahead of them or behind.
func wantAt(t *testing.T, c api.Cell, dots ...api.Dot) {
	t.Helper()
	for k, d := range dots {
		if got, err := At(c, k); got != d || err != api.OK {
			t.Errorf("P10.3: At(%v, %d) = %v, %d, want %v", c, k, got, err, d)
		}
	}
	n := len(dots)
	for _, k := range []int{n, n + 1, n + 2, len(c.Elems), len(c.Elems) + 1, 1 << 32, 1<<32 + n, math.MaxInt - 1, math.MaxInt, -1, -2, -n - 1, -1 << 32, math.MinInt + 1, math.MinInt, math.MinInt + n} {
		if k >= 0 && k < n {
			continue
		}
		if got, err := At(c, k); got != (api.Dot{}) || err != api.ErrRgaRange {
			t.Errorf("P10.3: At(%v, %d) = %v, %d, want ErrRgaRange", c, k, got, err)
		}
	}
}

func TestNumbersAreTheDocuments(t *testing.T) {
	numbers := [][2]int{
		{api.CellList, 3}, {int(api.ErrRgaForm), 1000}, {int(api.ErrRgaRange), 1001}, {int(api.OK), 0},
		{api.MaxNodes, 16}, {api.MaxSeq, 1048575}, {api.MaxTime, 16777215}, {api.MaxValue, 256},
	}
	for i, n := range numbers {
		if n[0] != n[1] {
			t.Errorf("number %d: %d, want %d", i, n[0], n[1])
		}
	}
}

// P10.1, Insert, ordinary inputs.

func TestInsertIntoNoElems(t *testing.T) {
	e := elemOf(1, 2, 3, "tea")
	wantInsert(t, api.Cell{Kind: api.CellList}, e, api.Dot{}, e)
	wantInsert(t, api.Cell{Kind: api.CellList, Elems: []api.Elem{}}, e, api.Dot{}, e)
	wantInsert(t, with(full(api.CellList)), e, api.Dot{}, e)
}

// The latest element stands right behind ref's, wherever that one is, and ahead of
// all of the zero Dot.
func TestInsertRightBehindRef(t *testing.T) {
	a, b, c := elemOf(1, 1, 1, "a"), elemOf(0, 2, 2, "b"), elemOf(2, 3, 3, "c")
	x := elemOf(0, 9, 4, "x")
	list := listOf(a, b, c)
	wantInsert(t, list, x, api.Dot{}, x, a, b, c)
	wantInsert(t, list, x, a.Dot, a, x, b, c)
	wantInsert(t, list, x, b.Dot, a, b, x, c)
	wantInsert(t, list, x, c.Dot, a, b, c, x)
	wantInsert(t, listOf(a), x, a.Dot, a, x)
	wantInsert(t, listOf(a), x, api.Dot{}, x, a)
}

// An element that is Gone has its place still.
func TestInsertBehindOneThatIsGone(t *testing.T) {
	a, b, c := gone(elemOf(1, 1, 1, "")), gone(elemOf(0, 2, 2, "")), gone(elemOf(2, 3, 3, ""))
	x := elemOf(0, 9, 4, "x")
	list := listOf(a, b, c)
	wantInsert(t, list, x, api.Dot{}, x, a, b, c)
	wantInsert(t, list, x, a.Dot, a, x, b, c)
	wantInsert(t, list, x, b.Dot, a, b, x, c)
	wantInsert(t, list, x, c.Dot, a, b, c, x)
	wantInsert(t, listOf(elemOf(4, 4, 1, "d"), a, elemOf(5, 5, 1, "e")), x, a.Dot, elemOf(4, 4, 1, "d"), a, x, elemOf(5, 5, 1, "e"))
}

// A dot is found by its Node and its Seq, not by one of them.
func TestInsertFindsRefByBothNumbers(t *testing.T) {
	list := listOf(elemOf(1, 2, 1, "a"), elemOf(2, 1, 1, "b"), elemOf(1, 1, 1, "c"), elemOf(2, 2, 1, "d"), elemOf(0, 1, 1, "e"))
	for i, e := range list.Elems {
		wantInsertAt(t, list, elemOf(9, 9, 2, "x"), e.Dot, i+1)
	}
}

// Past none, one, several and all of those behind ref.
func TestInsertPastLaterStamps(t *testing.T) {
	list := listOf(elemOf(1, 1, 50, "a"), elemOf(1, 2, 40, "b"), elemOf(1, 3, 30, "c"), elemOf(1, 4, 20, "d"))
	for _, row := range []struct{ time, first, behindA, behindC int }{
		{51, 0, 1, 3}, {45, 1, 1, 3}, {35, 2, 2, 3}, {25, 3, 3, 3}, {15, 4, 4, 4}, {1, 4, 4, 4},
	} {
		x := elemOf(1, 9, row.time, "x")
		wantInsertAt(t, list, x, api.Dot{}, row.first)
		wantInsertAt(t, list, x, dotOf(1, 1), row.behindA)
		wantInsertAt(t, list, x, dotOf(1, 3), row.behindC)
		wantInsertAt(t, list, x, dotOf(1, 4), 4)
	}
}

// The first element that is no later stops the walk, though later ones stand behind it.
func TestInsertStopsAtTheFirstThatIsNoLater(t *testing.T) {
	list := listOf(elemOf(1, 1, 9, "a"), elemOf(1, 2, 9, "b"), elemOf(1, 3, 2, "c"), elemOf(1, 4, 9, "d"), elemOf(1, 5, 2, "e"), elemOf(1, 6, 9, "f"))
	x := elemOf(1, 9, 5, "x")
	wantInsertAt(t, list, x, api.Dot{}, 2)
	for i, place := range []int{2, 2, 4, 4, 6, 6} {
		wantInsertAt(t, list, x, list.Elems[i].Dot, place)
	}
}

// By Time alone, then by Node alone; a later Time counts whatever the Nodes; the Seqs
// and the values have no part in it.
func TestInsertComparesStamps(t *testing.T) {
	there := elemOf(5, 500, 50, "m")
	for _, row := range []struct {
		node, time int
		past       bool
	}{
		{5, 49, true}, {5, 50, false}, {5, 51, false},
		{4, 50, true}, {6, 50, false}, {0, 50, true}, {15, 50, false},
		{15, 49, true}, {6, 49, true}, {0, 49, true}, {4, 51, false}, {0, 51, false}, {15, 51, false},
		{0, 1, true}, {15, 1, true}, {0, 16777215, false}, {15, 16777215, false},
	} {
		for _, seq := range []int{1, 499, 501, 1048575} {
			for _, value := range []string{"", "a", "m", "z"} {
				x, place := elemOf(row.node, seq, row.time, value), 0
				if row.past {
					place = 1
				}
				wantInsertAt(t, listOf(there), x, api.Dot{}, place)
				ref := elemOf(9, 9, 1, "ref")
				wantInsertAt(t, listOf(ref, there), x, ref.Dot, 1+place)
				wantInsertAt(t, listOf(gone(ref), gone(there)), x, ref.Dot, 1+place)
			}
		}
	}
}

// Elements that are Gone are passed like others, and stop the walk like others.
func TestInsertPastThoseThatAreGone(t *testing.T) {
	a, b, c, d := gone(elemOf(1, 1, 9, "")), elemOf(1, 2, 8, "b"), gone(elemOf(1, 3, 7, "")), elemOf(1, 4, 6, "d")
	list := listOf(a, b, c, d)
	for place, time := range []int{10, 8, 7, 6, 5} {
		wantInsertAt(t, list, elemOf(1, 9, time, "x"), api.Dot{}, place)
	}
	wantInsertAt(t, list, elemOf(1, 9, 5, "x"), b.Dot, 4)
	wantInsertAt(t, list, elemOf(1, 9, 6, "x"), b.Dot, 3)
	wantInsertAt(t, list, elemOf(1, 9, 7, "x"), a.Dot, 2)
	all := listOf(gone(a), gone(b), gone(c), gone(d))
	for place, time := range []int{10, 8, 7, 6, 5} {
		wantInsertAt(t, all, elemOf(1, 9, time, "x"), api.Dot{}, place)
	}
}

// ref's own stamp has no part in it: one that is earlier than ref's stands behind it
// all the same.
func TestInsertBehindALaterRef(t *testing.T) {
	list := listOf(elemOf(1, 1, 9, "a"), elemOf(1, 2, 3, "b"))
	wantInsertAt(t, list, elemOf(1, 9, 5, "x"), dotOf(1, 1), 1)
	wantInsertAt(t, list, elemOf(1, 9, 1, "x"), dotOf(1, 2), 2)
}

func TestInsertAtTheLimits(t *testing.T) {
	values := []string{"", "v", strings.Repeat("v", 255), strings.Repeat("v", 256), strings.Repeat("\xff", 256), strings.Repeat("é", 128), "\x00"}
	for _, d := range []api.Dot{dotOf(0, 1), dotOf(0, 1048575), dotOf(15, 1), dotOf(15, 1048575)} {
		for _, time := range []int{1, 2, 16777214, 16777215} {
			for _, value := range values {
				e := api.Elem{Dot: d, Time: time, Value: value}
				wantInsert(t, listOf(), e, api.Dot{}, e)
				wantInsertAt(t, listOf(elemOf(7, 7, 1, "a")), e, dotOf(7, 7), 1)
				x := elemOf(7, 7, 16777215, "x")
				place := 0
				if time == 16777215 && d.Node == 15 {
					place = 1
				}
				wantInsertAt(t, listOf(e), x, api.Dot{}, place)
				wantInsertAt(t, listOf(e), x, d, 1)
			}
		}
	}
	first, last := elemOf(0, 1, 1, "first"), elemOf(15, 1, 16777215, "last")
	wantInsert(t, listOf(last), first, api.Dot{}, last, first)
	wantInsert(t, listOf(first), last, api.Dot{}, last, first)
}

// P10.1, Insert, wrong inputs.

func TestInsertIntoOtherKinds(t *testing.T) {
	for _, kind := range otherKinds {
		wantInsertRefused(t, full(kind), elemOf(7, 7, 7, "x"), api.Dot{}, api.ErrRgaForm)
		wantInsertRefused(t, full(kind), elemOf(7, 7, 7, "x"), one.Dot, api.ErrRgaForm)
		wantInsertRefused(t, full(kind), elemOf(7, 7, 7, "x"), dotOf(8, 8), api.ErrRgaForm)
		wantInsertRefused(t, api.Cell{Kind: kind}, elemOf(7, 7, 7, ""), api.Dot{}, api.ErrRgaForm)
		wantInsertRefused(t, api.Cell{Kind: kind}, elemOf(99, 0, 0, ""), dotOf(8, 8), api.ErrRgaForm)
	}
}

// wantElemRefused wants e to be no element for any list, and that error to go ahead of
// the other one, which a ref that no element has would bring.
func wantElemRefused(t *testing.T, e api.Elem) {
	t.Helper()
	wantInsertRefused(t, listOf(), e, api.Dot{}, api.ErrRgaForm)
	wantInsertRefused(t, listOf(), e, dotOf(8, 8), api.ErrRgaForm)
	for _, ref := range []api.Dot{{}, one.Dot, three.Dot, dotOf(8, 8), dotOf(-1, -1), e.Dot} {
		wantInsertRefused(t, full(api.CellList), e, ref, api.ErrRgaForm)
	}
}

func TestInsertOfDotsBeyondTheLimits(t *testing.T) {
	for _, node := range farNodes {
		for _, seq := range append([]int{1, 2, 1048575}, farSeqs...) {
			wantElemRefused(t, elemOf(node, seq, 5, "x"))
		}
	}
	for _, seq := range farSeqs {
		for _, node := range []int{0, 1, 15} {
			wantElemRefused(t, elemOf(node, seq, 5, "x"))
		}
	}
	wantElemRefused(t, api.Elem{Time: 5, Value: "x"})
	wantElemRefused(t, api.Elem{})
}

func TestInsertOfTimesBeyondTheLimits(t *testing.T) {
	for _, time := range farTimes {
		for _, d := range []api.Dot{dotOf(0, 1), dotOf(7, 7), dotOf(15, 1048575)} {
			wantElemRefused(t, api.Elem{Dot: d, Time: time, Value: "x"})
		}
	}
}

func TestInsertOfAValueThatIsTooLong(t *testing.T) {
	for _, value := range []string{strings.Repeat("v", 257), strings.Repeat("\x00", 257), strings.Repeat("é", 129), strings.Repeat("v", 512), strings.Repeat("v", 65536+1)} {
		wantElemRefused(t, elemOf(7, 7, 7, value))
	}
}

func TestInsertOfOneThatIsGone(t *testing.T) {
	for _, value := range []string{"", "x"} {
		e := elemOf(7, 7, 7, value)
		e.Gone = true
		wantElemRefused(t, e)
	}
}

// A dot that is there is refused wherever it stands, Gone or not, whatever the Time and
// the value, and ahead of a ref that no element has.
func TestInsertOfADotThatIsThere(t *testing.T) {
	a, b, c := elemOf(4, 1, 3, "a"), elemOf(1, 1, 2, "b"), elemOf(1, 2, 1, "c")
	rows := [][]api.Elem{{a}, {gone(a)}, {a, b, c}, {gone(a), b, c}, {a, gone(b), c}, {a, b, gone(c)}, {c, b, a}, {gone(b), gone(a), gone(c)}, {a, a}}
	for _, row := range rows {
		for _, there := range row {
			for _, time := range []int{there.Time, 1, 9, 16777215} {
				for _, ref := range []api.Dot{{}, row[0].Dot, there.Dot, dotOf(8, 8), dotOf(4, 2)} {
					wantInsertRefused(t, listOf(row...), api.Elem{Dot: there.Dot, Time: time, Value: there.Value}, ref, api.ErrRgaForm)
					wantInsertRefused(t, listOf(row...), api.Elem{Dot: there.Dot, Time: time, Value: "x"}, ref, api.ErrRgaForm)
				}
			}
		}
	}
}

// A ref that no element has, though its Node or its Seq is one's; the element's own
// dot is none yet.
func TestInsertBehindARefThatNoElementHas(t *testing.T) {
	e := elemOf(7, 7, 7, "x")
	for _, node := range append([]int{0, 1, 2, 3, 15}, farNodes...) {
		for _, seq := range append([]int{1, 2, 4, 1048575}, farSeqs...) {
			ref := dotOf(node, seq)
			if ref == (api.Dot{}) {
				continue
			}
			wantInsertRefused(t, listOf(), e, ref, api.ErrRgaRange)
			if ref != one.Dot && ref != two.Dot && ref != three.Dot {
				wantInsertRefused(t, full(api.CellList), e, ref, api.ErrRgaRange)
			}
		}
	}
	wantInsertRefused(t, full(api.CellList), e, e.Dot, api.ErrRgaRange)
	wantInsertRefused(t, listOf(), e, e.Dot, api.ErrRgaRange)
}

// Elements that may not be are compared like others, and stay; the zero Dot is ahead
// of all, though an element has it.
func TestInsertBesideOddElements(t *testing.T) {
	low, high := elemOf(math.MaxInt, 1, math.MinInt, "low"), elemOf(math.MinInt, 1, math.MaxInt, "high")
	x := elemOf(3, 3, 3, "x")
	wantInsert(t, listOf(high, low), x, api.Dot{}, high, x, low)
	wantInsert(t, listOf(high, low), x, low.Dot, high, low, x)
	wantInsert(t, listOf(low, high), x, api.Dot{}, x, low, high)
	below, above := elemOf(math.MinInt, 1, 3, "below"), elemOf(math.MaxInt, 1, 3, "above")
	wantInsert(t, listOf(above, below), x, api.Dot{}, above, x, below)
	zero := elemOf(0, 0, 2, "zero")
	wantInsert(t, listOf(low, zero), x, api.Dot{}, x, low, zero)
	twin := elemOf(3, 1, 2, "twin")
	wantInsert(t, listOf(twin, low, twin), x, twin.Dot, twin, x, low, twin)
}

// P10.2, Erase.

func TestErase(t *testing.T) {
	a, b, c := elemOf(4, 1, 3, "a"), elemOf(1, 1, 2, ""), elemOf(1, 4, 1, "c")
	list := listOf(a, b, c)
	wantErase(t, list, a.Dot, gone(a), b, c)
	wantErase(t, list, b.Dot, a, gone(b), c)
	wantErase(t, list, c.Dot, a, b, gone(c))
	wantErase(t, listOf(a), a.Dot, gone(a))
	wantErase(t, listOf(gone(a), b, gone(c)), b.Dot, gone(a), gone(b), gone(c))
	wantErase(t, full(api.CellList), one.Dot, gone(one), two, three)
}

// One that is Gone already is Gone still; a value that it should not have goes.
func TestEraseOfOneThatIsGone(t *testing.T) {
	wantErase(t, full(api.CellList), two.Dot, one, two, three)
	wantErase(t, listOf(two), two.Dot, two)
	odd := two
	odd.Value = "odd"
	wantErase(t, listOf(one, odd), two.Dot, one, two)
}

func TestEraseAtTheLimits(t *testing.T) {
	for _, d := range []api.Dot{dotOf(0, 1), dotOf(0, 1048575), dotOf(15, 1), dotOf(15, 1048575)} {
		for _, time := range []int{1, 16777215} {
			for _, value := range []string{"", strings.Repeat("v", 256)} {
				e := api.Elem{Dot: d, Time: time, Value: value}
				wantErase(t, listOf(one, e, three), d, one, gone(e), three)
			}
		}
	}
}

// A dot that no element has, though its Node or its Seq is one's; the zero Dot too.
func TestEraseOfADotThatNoElementHas(t *testing.T) {
	for _, node := range append([]int{0, 1, 2, 3, 15}, farNodes...) {
		for _, seq := range append([]int{1, 2, 4, 1048575}, farSeqs...) {
			d := dotOf(node, seq)
			wantEraseRefused(t, listOf(), d, api.ErrRgaRange)
			wantEraseRefused(t, api.Cell{Kind: api.CellList}, d, api.ErrRgaRange)
			if d != one.Dot && d != two.Dot && d != three.Dot {
				wantEraseRefused(t, full(api.CellList), d, api.ErrRgaRange)
			}
		}
	}
}

// What an element has may be erased, though it may not be; of two elements of one dot
// it is the first one.
func TestEraseOfOddElements(t *testing.T) {
	zero, far := elemOf(0, 0, 0, "zero"), elemOf(math.MinInt, math.MaxInt, -1, strings.Repeat("v", 300))
	wantErase(t, listOf(one, zero, far), api.Dot{}, one, gone(zero), far)
	wantErase(t, listOf(one, zero, far), far.Dot, one, zero, gone(far))
	twin := one
	twin.Value = "twin"
	wantErase(t, listOf(one, three, twin), one.Dot, gone(one), three, twin)
}

// P10.2, Compact.

func TestCompact(t *testing.T) {
	a, b, c := elemOf(4, 1, 3, "a"), elemOf(1, 1, 2, ""), elemOf(1, 4, 1, "c")
	wantCompact(t, api.Cell{Kind: api.CellList})
	wantCompact(t, listOf())
	wantCompact(t, listOf(a), a)
	wantCompact(t, listOf(gone(a)))
	wantCompact(t, listOf(a, b, c), a, b, c)
	wantCompact(t, listOf(gone(a), b, c), b, c)
	wantCompact(t, listOf(a, gone(b), c), a, c)
	wantCompact(t, listOf(a, b, gone(c)), a, b)
	wantCompact(t, listOf(gone(a), b, gone(c)), b)
	wantCompact(t, listOf(gone(a), gone(b), gone(c)))
	wantCompact(t, full(api.CellList), one, three)
}

// Gone alone counts: not an empty value, nor one that should not be there.
func TestCompactOfOddElements(t *testing.T) {
	odd := two
	odd.Value = "odd"
	zero, far := api.Elem{}, elemOf(math.MinInt, math.MaxInt, -1, strings.Repeat("v", 300))
	wantCompact(t, listOf(odd, zero, far, odd, far), zero, far, far)
}

// All lists of a few elements, each of them Gone or not: what Compact leaves, what
// Values and At tell, and that they tell the same behind a compaction.
func TestAllSmallLists(t *testing.T) {
	all := []api.Elem{elemOf(4, 1, 3, "a"), elemOf(1, 1, 2, ""), elemOf(0, 4, 1, "c"), elemOf(1, 5, 9, "a"), elemOf(15, 5, 8, "d")}
	for length := range len(all) + 1 {
		for erased := range 1 << length {
			var elems, left []api.Elem
			var values []string
			var dots []api.Dot
			for i, e := range all[:length] {
				if erased>>i&1 == 1 {
					elems = append(elems, gone(e))
					continue
				}
				elems, left = append(elems, e), append(left, e)
				values, dots = append(values, e.Value), append(dots, e.Dot)
			}
			for _, c := range []api.Cell{listOf(elems...), listOf(left...)} {
				wantCompact(t, c, left...)
				wantValues(t, c, values...)
				wantAt(t, c, dots...)
			}
		}
	}
}

func TestOtherKinds(t *testing.T) {
	for _, kind := range otherKinds {
		for _, c := range []api.Cell{full(kind), {Kind: kind}} {
			for _, d := range []api.Dot{one.Dot, two.Dot, {}, dotOf(8, 8), dotOf(-1, 99)} {
				wantEraseRefused(t, c, d, api.ErrRgaForm)
			}
			if got, err := Compact(c); !same(got, api.Cell{}) || err != api.ErrRgaForm {
				t.Errorf("P10.2: Compact(%v) = %v, %d", c, got, err)
			}
			if got, err := Values(c); len(got) != 0 || err != api.ErrRgaForm {
				t.Errorf("P10.3: Values(%v) = %q, %d", c, got, err)
			}
			for _, k := range []int{0, 1, 2, -1, math.MinInt, math.MaxInt} {
				if got, err := At(c, k); got != (api.Dot{}) || err != api.ErrRgaForm {
					t.Errorf("P10.3: At(%v, %d) = %v, %d", c, k, got, err)
				}
			}
		}
	}
}

// P10.1, P10.2: all else of a cell stays, wrong as it may be, the other elements too.
func TestAllElseStays(t *testing.T) {
	c := full(api.CellList)
	x := elemOf(2, 1, 15, "x")
	for _, set := range []bool{false, true} {
		c.Set = set
		wantInsert(t, c, x, api.Dot{}, one, two, x, three)
		wantErase(t, c, three.Dot, one, two, gone(three))
		wantCompact(t, c, one, three)
	}
	long := elemOf(9, -9, -4, strings.Repeat("v", 300))
	c.Stamp = api.Stamp{Time: -1, Node: 99}
	c.Value = long.Value
	c.Num = api.Pair{Re: math.MinInt, Im: math.MaxInt}
	c.Seen = []int{math.MinInt, -1, 0, math.MaxInt}
	c.Entries = []api.Entry{{Dot: dotOf(9, -9), Value: long.Value}, {Dot: dotOf(1, 1)}, {Dot: dotOf(1, 1)}}
	c.Elems = []api.Elem{two, long, one}
	wantInsert(t, c, x, long.Dot, two, long, one, x)
	wantErase(t, c, one.Dot, two, long, gone(one))
	wantCompact(t, c, long, one)
}

// P10.3, Values and At.

func TestValues(t *testing.T) {
	wantValues(t, api.Cell{Kind: api.CellList})
	wantValues(t, listOf())
	wantValues(t, listOf(elemOf(1, 1, 1, "a")), "a")
	wantValues(t, listOf(elemOf(1, 1, 1, "")), "")
	wantValues(t, listOf(elemOf(1, 1, 1, "c"), elemOf(1, 2, 1, "a"), elemOf(2, 1, 1, "b")), "c", "a", "b")
	wantValues(t, listOf(elemOf(1, 1, 1, "b"), elemOf(1, 2, 1, "b"), elemOf(2, 1, 1, ""), elemOf(2, 2, 1, "b"), elemOf(2, 3, 1, "")), "b", "b", "", "b", "")
	wantValues(t, listOf(two))
	wantValues(t, listOf(two, two, two))
	wantValues(t, full(api.CellList), "one", "three")
	bytes := []string{"\xff", "\x00", "é", strings.Repeat("v", 256), "\U00010000", "\xff\xff", " "}
	var elems []api.Elem
	for i, value := range bytes {
		elems = append(elems, elemOf(0, 1+i, 1, value), two)
	}
	wantValues(t, listOf(elems...), bytes...)
}

func TestAt(t *testing.T) {
	a, b, c, d := elemOf(4, 1, 3, "a"), elemOf(1, 1, 2, ""), elemOf(0, 1, 9, "a"), elemOf(15, 1048575, 1, "d")
	wantAt(t, api.Cell{Kind: api.CellList})
	wantAt(t, listOf())
	wantAt(t, listOf(a), a.Dot)
	wantAt(t, listOf(gone(a)))
	wantAt(t, listOf(a, b, c, d), a.Dot, b.Dot, c.Dot, d.Dot)
	wantAt(t, listOf(d, c, b, a), d.Dot, c.Dot, b.Dot, a.Dot)
	wantAt(t, listOf(gone(a), b, c, d), b.Dot, c.Dot, d.Dot)
	wantAt(t, listOf(a, gone(b), gone(c), d), a.Dot, d.Dot)
	wantAt(t, listOf(a, b, c, gone(d)), a.Dot, b.Dot, c.Dot)
	wantAt(t, listOf(gone(a), gone(b), gone(c), gone(d)))
	wantAt(t, full(api.CellList), one.Dot, three.Dot)
}

// What may not be there is told like the rest: the promise names the kind alone.
func TestValuesAndAtOfOddElements(t *testing.T) {
	long, odd := strings.Repeat("v", 300), two
	odd.Value = "odd"
	c := listOf(odd, elemOf(-1, math.MinInt, -7, long), api.Elem{}, elemOf(99, 0, 0, "w"), elemOf(99, 0, 0, "w"))
	wantValues(t, c, long, "", "w", "w")
	wantAt(t, c, dotOf(-1, math.MinInt), api.Dot{}, dotOf(99, 0), dotOf(99, 0))
}

// act is an insert of e behind ref, or an erase of ref; it comes behind what it needs.
type act struct {
	e     api.Elem
	ref   api.Dot
	erase bool
	needs []int
}

func (a act) do(c api.Cell) (api.Cell, api.Errno) {
	if a.erase {
		return Erase(c, a.ref)
	}
	return Insert(c, a.e, a.ref)
}

// T2: in whatever row acts come, each behind what it saw, the cell comes to the same:
// of two writers at one place the later stamp stands first, each with its own behind
// it; behind one that another writer erased there is a place still.
func TestInAnyRow(t *testing.T) {
	a, b, c := elemOf(0, 1, 1, "a"), elemOf(1, 1, 2, "b"), elemOf(2, 1, 2, "c")
	d, e := elemOf(1, 2, 3, "d"), elemOf(2, 3, 4, "e")
	acts := []act{
		{e: a},
		{e: b, ref: a.Dot, needs: []int{0}},
		{e: c, ref: a.Dot, needs: []int{0}},
		{e: d, ref: b.Dot, needs: []int{1}},
		{ref: a.Dot, erase: true, needs: []int{2}},
		{e: e, ref: c.Dot, needs: []int{4}},
		{ref: b.Dot, erase: true, needs: []int{1}},
	}
	want := api.Cell{Kind: api.CellList, Elems: []api.Elem{gone(a), c, e, gone(b), d}}
	rows := 0
	inAnyRow(acts, func(row []int) {
		got := api.Cell{Kind: api.CellList}
		for _, i := range row {
			next, err := acts[i].do(got)
			if err != api.OK {
				t.Fatalf("T2: row %v, act %d: %d", row, i, err)
			}
			got = next
		}
		rows++
		if !same(got, want) {
			t.Errorf("T2: row %v: %v", row, got)
		}
	})
	if rows != 40 {
		t.Errorf("%d rows were tried, of 40", rows)
	}
}

// inAnyRow calls do with each row of acts in which each stands behind what it needs.
func inAnyRow(acts []act, do func([]int)) {
	var grow func(row []int)
	grow = func(row []int) {
		if len(row) == len(acts) {
			do(row)
			return
		}
		for i, a := range acts {
			ready := !slices.Contains(row, i)
			for _, need := range a.needs {
				ready = ready && slices.Contains(row, need)
			}
			if ready {
				grow(append(row, i))
			}
		}
	}
	grow(nil)
}

// T3: a compaction is not seen in what is told now, nor in what is told once later
// elements came, since these refer to none that went.
func TestCompactIsUnseen(t *testing.T) {
	a, b, c, d := elemOf(0, 1, 1, "a"), elemOf(1, 1, 2, "b"), elemOf(2, 1, 3, "c"), elemOf(0, 2, 4, "d")
	for erased := range 16 {
		whole := listOf(a, b, c, d)
		var refs []api.Dot
		for i, e := range slices.Clone(whole.Elems) {
			if erased>>i&1 == 1 {
				whole, _ = Erase(whole, e.Dot)
			} else {
				refs = append(refs, e.Dot)
			}
		}
		small, _ := Compact(whole)
		for seq, ref := range append(refs, api.Dot{}) {
			for node := range 3 {
				e := elemOf(node, 10+seq, 20, string(rune('p'+3*seq+node)))
				whole, _ = Insert(whole, e, ref)
				small, _ = Insert(small, e, ref)
				want, _ := Values(whole)
				wantValues(t, small, want...)
			}
		}
		wantCompact(t, whole, small.Elems...)
	}
}

// R4: behind calls, refused or not, the cell is as it was, its spare room too.
func TestArgumentsStay(t *testing.T) {
	c := full(api.CellList)
	for _, kind := range []int{api.CellList, api.CellSet} {
		c.Kind = kind
		for _, ref := range []api.Dot{{}, one.Dot, two.Dot, three.Dot, dotOf(8, 8)} {
			for _, time := range []int{0, 1, 15, 25, 99} {
				Insert(c, elemOf(7, 7, time, "x"), ref)
			}
			Insert(c, three, ref)
			Erase(c, ref)
		}
		Compact(c)
		Values(c)
		for k := -1; k < 4; k++ {
			At(c, k)
		}
		wantUntouched(t, c, kind)
	}
}

// wantUntouched wants c to be full's of that kind, its spare room too.
func wantUntouched(t *testing.T, c api.Cell, kind int) {
	t.Helper()
	if !reflect.DeepEqual(c, full(kind)) {
		t.Errorf("R4: the cell is %v", c)
	}
	if c.Entries[:3][2].Value != "spare" || !slices.Equal(c.Elems[:5], full(kind).Elems[:5]) || c.Seen[:3][2] != 77 {
		t.Errorf("R4: the spare room is %v, %v, %v", c.Entries[:3], c.Elems[:5], c.Seen[:3])
	}
}

// spoil writes into all that c's lists reach.
func spoil(c api.Cell) {
	entries, elems, seen := c.Entries[:cap(c.Entries)], c.Elems[:cap(c.Elems)], c.Seen[:cap(c.Seen)]
	for i := range entries {
		entries[i] = api.Entry{Value: "spoilt"}
	}
	for i := range elems {
		elems[i] = api.Elem{Value: "spoilt"}
	}
	for i := range seen {
		seen[i] = -1
	}
}

// changes are calls that answer a cell: an insert ahead of all, between two, behind
// all, an erase of one that is Gone and of one that is not, a compaction.
func changes() []func(api.Cell) (api.Cell, api.Errno) {
	return []func(api.Cell) (api.Cell, api.Errno){
		act{e: elemOf(7, 7, 99, "x")}.do,
		act{e: elemOf(7, 7, 99, "x"), ref: one.Dot}.do,
		act{e: elemOf(7, 7, 1, "x"), ref: one.Dot}.do,
		act{ref: one.Dot, erase: true}.do,
		act{ref: two.Dot, erase: true}.do,
		Compact,
	}
}

// R4: what is done to an answer is seen neither in the cell nor in a second answer,
// and what is done to the cell is not seen in an answer.
func TestAnswersShareNoLists(t *testing.T) {
	for i, change := range changes() {
		c := full(api.CellList)
		first, err := change(c)
		second, _ := change(c)
		want, _ := change(full(api.CellList))
		if err != api.OK {
			t.Errorf("change %d: %d", i, err)
		}
		spoil(first)
		wantUntouched(t, c, api.CellList)
		if !same(second, want) {
			t.Errorf("R4: change %d: the second answer is %v", i, second)
		}
		spoil(c)
		if !same(second, want) {
			t.Errorf("R4: change %d: the cell's memory is the answer's: %v", i, second)
		}
	}
}

// R4: a list of no length hands no room on.
func TestAnswersShareNoRoomOfEmptyLists(t *testing.T) {
	for _, change := range changes() {
		c := full(api.CellList)
		c.Entries, c.Elems, c.Seen = c.Entries[:0], c.Elems[:0], c.Seen[:0]
		got, _ := change(c)
		spoil(got)
		c.Entries, c.Elems, c.Seen = c.Entries[:2], c.Elems[:3], c.Seen[:2]
		wantUntouched(t, c, api.CellList)
	}
}

// R4 of the list that Values answers.
func TestValuesShareNoMemory(t *testing.T) {
	c := full(api.CellList)
	values, _ := Values(c)
	values = values[:cap(values)]
	for i := range values {
		values[i] = "spoilt"
	}
	wantUntouched(t, c, api.CellList)
	wantValues(t, c, "one", "three")
}

// R4 of texts: an answer keeps hold of none that was handed in, and two answers of
// none together.
func TestAnswersShareNoTexts(t *testing.T) {
	c, x := full(api.CellList), elemOf(7, 7, 99, strings.Clone("new"))
	apart := func(a, b string) {
		t.Helper()
		if a != b || unsafe.StringData(a) == unsafe.StringData(b) {
			t.Errorf("R4: %q and %q", a, b)
		}
	}
	inserted, _ := Insert(c, x, api.Dot{})
	apart(x.Value, inserted.Elems[0].Value)
	apart(c.Elems[0].Value, inserted.Elems[1].Value)
	apart(c.Elems[2].Value, inserted.Elems[3].Value)
	erased, _ := Erase(c, two.Dot)
	apart(c.Elems[0].Value, erased.Elems[0].Value)
	compacted, _ := Compact(c)
	apart(c.Elems[2].Value, compacted.Elems[1].Value)
	for _, got := range []api.Cell{inserted, erased, compacted} {
		apart(c.Entries[0].Value, got.Entries[0].Value)
		apart(c.Value, got.Value)
	}
	values, _ := Values(c)
	again, _ := Values(c)
	apart(c.Elems[2].Value, values[1])
	apart(values[1], again[1])
}

// wantFull wants of full's cell what the promises say, of one call a promise.
func wantFull(t *testing.T, c api.Cell, seq int) {
	t.Helper()
	x := elemOf(2, seq, 15, "x")
	wantInsert(t, c, x, api.Dot{}, one, two, x, three)
	wantInsertRefused(t, c, x, dotOf(9, seq), api.ErrRgaRange)
	wantInsertRefused(t, c, elemOf(16, seq, 15, "x"), api.Dot{}, api.ErrRgaForm)
	wantErase(t, c, three.Dot, one, two, gone(three))
	wantEraseRefused(t, c, dotOf(9, seq), api.ErrRgaRange)
	wantCompact(t, c, one, three)
	wantValues(t, c, "one", "three")
	wantAt(t, c, one.Dot, three.Dot)
}

// R5: the same arguments, the same answers, whatever was asked in between.
func TestSecondCallsAnswerAlike(t *testing.T) {
	c := full(api.CellList)
	for range 3 {
		wantFull(t, c, 1)
	}
}

// R5: plain functions may be called from several goroutines at one time, over one cell.
func TestSeveralGoroutines(t *testing.T) {
	c := full(api.CellList)
	var all sync.WaitGroup
	for range 8 {
		all.Go(func() {
			for i := range 200 {
				wantFull(t, c, 1+i)
			}
		})
	}
	all.Wait()
}

// R1: lists of many elements end soon: a walk past all of them, one that is the last,
// one that is not there.
func TestManyElems(t *testing.T) {
	const many = 200000
	var elems []api.Elem
	for i := range many {
		e := elemOf(i%16, 1+i/16, 1+many-i, "v")
		if i%2 == 1 {
			e = gone(e)
		}
		elems = append(elems, e)
	}
	c := listOf(elems...)
	last := elems[many-1].Dot
	if got, err := Insert(c, elemOf(0, 1048575, 1, "x"), api.Dot{}); len(got.Elems) != many+1 || got.Elems[many].Value != "x" || err != api.OK {
		t.Errorf("P10.1: %d elements, %d", len(got.Elems), err)
	}
	if got, err := Insert(c, elemOf(0, 1048575, 1, "x"), last); len(got.Elems) != many+1 || got.Elems[many].Value != "x" || err != api.OK {
		t.Errorf("P10.1: %d elements, %d", len(got.Elems), err)
	}
	wantInsertRefused(t, api.Cell{Kind: api.CellList, Elems: elems[:9]}, elemOf(0, 1048575, 1, "x"), last, api.ErrRgaRange)
	if got, err := Erase(c, last); len(got.Elems) != many || err != api.OK {
		t.Errorf("P10.2: %d elements, %d", len(got.Elems), err)
	}
	if got, err := Compact(c); len(got.Elems) != many/2 || err != api.OK {
		t.Errorf("P10.2: %d elements, %d", len(got.Elems), err)
	}
	if got, err := Values(c); len(got) != many/2 || err != api.OK {
		t.Errorf("P10.3: %d values, %d", len(got), err)
	}
	if got, err := At(c, many/2-1); got != elems[many-2].Dot || err != api.OK {
		t.Errorf("P10.3: %v, %d", got, err)
	}
	if got, err := At(c, many/2); got != (api.Dot{}) || err != api.ErrRgaRange {
		t.Errorf("P10.3: %v, %d", got, err)
	}
}

// plainInsert is P10.1's place once more, told from the end: the elements from start
// on that stand ahead of the first one that is no later.
func plainInsert(elems []api.Elem, e api.Elem, ref api.Dot) []api.Elem {
	place := 0
	for i, there := range elems {
		if there.Dot == ref {
			place = i + 1
		}
	}
	rest := elems[place:]
	past := len(rest)
	for i := len(rest) - 1; i >= 0; i-- {
		if rest[i].Time < e.Time || rest[i].Time == e.Time && rest[i].Dot.Node <= e.Dot.Node {
			past = i
		}
	}
	return slices.Concat(elems[:place], rest[:past], []api.Elem{e}, rest[past:])
}

// Lists against plain rows of what was inserted, erased and compacted, over rows of
// the fuzzer's own: each three bytes are an act.
func FuzzLists(f *testing.F) {
	f.Add("")
	f.Add("\x01\x02\x00\x11\x03\x01\x81\x02\x01\x21\x02\x11")
	f.Add("aAbBcCaAzZ\xff\x00\x80\x11\xf0\x00\x00123456789")
	f.Fuzz(func(t *testing.T, acts string) {
		c := listOf()
		var plain []api.Elem
		for ; len(acts) > 2; acts = acts[3:] {
			e := elemOf(int(acts[0]>>4&7), 1+int(acts[0]&15), 1+int(acts[1]&15), acts[1:2])
			ref := dotOf(int(acts[2]>>4&7), int(acts[2]&15))
			has := func(d api.Dot) bool {
				return slices.ContainsFunc(plain, func(e api.Elem) bool { return e.Dot == d })
			}
			switch {
			case acts[0] >= 240:
				plain = slices.DeleteFunc(plain, func(e api.Elem) bool { return e.Gone })
				wantCompact(t, c, plain...)
				c, _ = Compact(c)
			case acts[0] >= 128 && has(ref):
				for i, there := range plain {
					if there.Dot == ref {
						plain[i] = gone(there)
					}
				}
				wantErase(t, c, ref, plain...)
				c, _ = Erase(c, ref)
			case acts[0] >= 128:
				wantEraseRefused(t, c, ref, api.ErrRgaRange)
			case has(e.Dot):
				wantInsertRefused(t, c, e, ref, api.ErrRgaForm)
			case ref == api.Dot{} || has(ref):
				plain = plainInsert(plain, e, ref)
				wantInsert(t, c, e, ref, plain...)
				c, _ = Insert(c, e, ref)
			default:
				wantInsertRefused(t, c, e, ref, api.ErrRgaRange)
			}
		}
		wantTold(t, c, plain)
	})
}

// wantTold wants c to tell of those elements rightly.
func wantTold(t *testing.T, c api.Cell, elems []api.Elem) {
	t.Helper()
	var values []string
	var dots []api.Dot
	for _, e := range elems {
		if !e.Gone {
			values, dots = append(values, e.Value), append(dots, e.Dot)
		}
	}
	wantValues(t, c, values...)
	wantAt(t, c, dots...)
}
