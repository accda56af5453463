package orset

import (
	"cmp"
	"math"
	"reflect"
	"slices"
	"strings"
	"sync"
	"testing"
	"unsafe"

	"tattle/api"
)

// otherKinds are kinds of cells that are no sets, and kinds that are none; some look
// right once their upper bits are gone.
var otherKinds = []int{api.CellLww, api.CellCount, api.CellList, 4, 5, 9, 100, -1, -2, -3, 1 << 8, 1<<8 + 2, 1 << 16, 1<<16 + 2, 1 << 32, 1<<32 + 2, math.MinInt, math.MinInt + 2, math.MaxInt - 1, math.MaxInt}

// farNodes and farSeqs are numbers of dots that may not be.
var (
	farNodes = []int{math.MinInt, math.MinInt + 1, -1 << 32, -256, -16, -1, 16, 17, 256, 1<<8 + 3, 1 << 32, 1<<32 + 3, math.MaxInt - 1, math.MaxInt}
	farSeqs  = []int{math.MinInt, math.MinInt + 1, -1 << 32, -256, -1, 0, 1048576, 1048577, 1 << 32, 1<<32 + 3, math.MaxInt - 1, math.MaxInt}
)

func dotOf(node, seq int) api.Dot {
	return api.Dot{Node: node, Seq: seq}
}

func entryOf(node, seq int, value string) api.Entry {
	return api.Entry{Dot: dotOf(node, seq), Value: value}
}

// setOf is a plain set of those entries.
func setOf(entries ...api.Entry) api.Cell {
	return api.Cell{Kind: api.CellSet, Entries: entries, Seen: []int{1, 2}}
}

// full is a cell of that kind in which everything stands, with spare room behind
// each list.
func full(kind int) api.Cell {
	entries := []api.Entry{entryOf(1, 2, "one"), entryOf(1, 4, "two"), entryOf(3, 4, "one"), {Value: "spare"}, {Value: "spare"}}
	elems := []api.Elem{{Dot: dotOf(5, 6), Time: 7, Value: "elem"}, {Time: 8, Gone: true}, {Value: "spare"}}
	seen := []int{9, 10, 77}
	return api.Cell{
		Kind:    kind,
		Set:     true,
		Stamp:   api.Stamp{Time: 500, Node: 7},
		Value:   "old",
		Num:     api.Pair{Re: 13, Im: 14},
		Entries: entries[:3],
		Elems:   elems[:2],
		Seen:    seen[:2],
	}
}

// same tells whether a and b are one cell; an empty list and nil are one.
func same(a, b api.Cell) bool {
	for _, c := range []*api.Cell{&a, &b} {
		if len(c.Entries) == 0 {
			c.Entries = nil
		}
		if len(c.Elems) == 0 {
			c.Elems = nil
		}
		if len(c.Seen) == 0 {
			c.Seen = nil
		}
	}
	return reflect.DeepEqual(a, b)
}

// with is c with other entries.
func with(c api.Cell, entries ...api.Entry) api.Cell {
	c.Entries = entries
	return c
}

// wantPut wants c with those entries, and all else of it to stay.
func wantPut(t *testing.T, c api.Cell, d api.Dot, value string, entries ...api.Entry) {
	t.Helper()
	if got, err := Put(c, d, value); !same(got, with(c, entries...)) || err != api.OK {
		t.Errorf("P9.1: Put(%v, %v, %q) = %v, %d, want %v", c, d, value, got, err, entries)
	}
}

// wantDrop wants c with those entries, and all else of it to stay.
func wantDrop(t *testing.T, c api.Cell, ds []api.Dot, entries ...api.Entry) {
	t.Helper()
	if got, err := Drop(c, ds); !same(got, with(c, entries...)) || err != api.OK {
		t.Errorf("P9.1: Drop(%v, %v) = %v, %d, want %v", c, ds, got, err, entries)
	}
}

func wantValues(t *testing.T, c api.Cell, values ...string) {
	t.Helper()
	if got, err := Values(c); !slices.Equal(got, values) || err != api.OK {
		t.Errorf("P9.2: Values(%v) = %q, %d, want %q", c, got, err, values)
	}
}

func wantDots(t *testing.T, c api.Cell, value string, dots ...api.Dot) {
	t.Helper()
	if got, err := Dots(c, value); !slices.Equal(got, dots) || err != api.OK {
		t.Errorf("P9.2: Dots(%v, %q) = %v, %d, want %v", c, value, got, err, dots)
	}
}

// wantPutRefused wants nothing beside the error (R2).
func wantPutRefused(t *testing.T, c api.Cell, d api.Dot, value string) {
	t.Helper()
	if got, err := Put(c, d, value); !same(got, api.Cell{}) || err != api.ErrOrsetForm {
		t.Errorf("P9.1: Put(%v, %v, %q) = %v, %d, want ErrOrsetForm", c, d, value, got, err)
	}
}

func TestNumbersAreTheDocuments(t *testing.T) {
	if api.CellSet != 2 || api.ErrOrsetForm != 900 || api.OK != 0 || api.MaxNodes != 16 || api.MaxSeq != 1048575 || api.MaxValue != 256 {
		t.Fatalf("CellSet %d, ErrOrsetForm %d, OK %d, MaxNodes %d, MaxSeq %d, MaxValue %d", api.CellSet, api.ErrOrsetForm, api.OK, api.MaxNodes, api.MaxSeq, api.MaxValue)
	}
}

// P9.1, Put, ordinary inputs.

func TestPutIntoNoEntries(t *testing.T) {
	wantPut(t, api.Cell{Kind: api.CellSet}, dotOf(1, 2), "tea", entryOf(1, 2, "tea"))
	wantPut(t, api.Cell{Kind: api.CellSet, Entries: []api.Entry{}}, dotOf(1, 2), "tea", entryOf(1, 2, "tea"))
	wantPut(t, with(full(api.CellSet)), dotOf(1, 2), "tea", entryOf(1, 2, "tea"))
}

// Ahead of all, between two, behind all: by Node alone and by Seq alone; a lower Node
// stands ahead whatever its Seq.
func TestPutStandsByDots(t *testing.T) {
	b, d := entryOf(2, 20, "b"), entryOf(4, 40, "d")
	c := setOf(b, d)
	for _, ahead := range []api.Dot{dotOf(1, 20), dotOf(2, 19), dotOf(0, 1048575), dotOf(2, 1), dotOf(1, 40), dotOf(0, 1)} {
		wantPut(t, c, ahead, "x", api.Entry{Dot: ahead, Value: "x"}, b, d)
	}
	for _, between := range []api.Dot{dotOf(3, 20), dotOf(3, 40), dotOf(3, 1), dotOf(3, 1048575), dotOf(2, 21), dotOf(2, 1048575), dotOf(4, 39), dotOf(4, 1)} {
		wantPut(t, c, between, "x", b, api.Entry{Dot: between, Value: "x"}, d)
	}
	for _, behind := range []api.Dot{dotOf(5, 40), dotOf(4, 41), dotOf(5, 1), dotOf(15, 1), dotOf(4, 1048575), dotOf(15, 1048575)} {
		wantPut(t, c, behind, "x", b, d, api.Entry{Dot: behind, Value: "x"})
	}
}

// The values have no part in the row.
func TestPutStandsByDotsWhateverTheValues(t *testing.T) {
	c := setOf(entryOf(1, 1, "m"), entryOf(1, 3, "a"))
	for _, value := range []string{"", "a", "m", "z", "\xff"} {
		wantPut(t, c, dotOf(1, 2), value, entryOf(1, 1, "m"), entryOf(1, 2, value), entryOf(1, 3, "a"))
	}
}

// A row that does not stand by dots stays as it is: the new entry goes ahead of the
// first one whose dot is greater.
func TestPutIntoARowThatIsNotSorted(t *testing.T) {
	e3, e1, e5, e2 := entryOf(3, 1, "3"), entryOf(1, 1, "1"), entryOf(5, 1, "5"), entryOf(2, 1, "2")
	c := setOf(e3, e1, e5, e2)
	at := func(node int) api.Entry { return entryOf(node, 7, "x") }
	wantPut(t, c, dotOf(0, 7), "x", at(0), e3, e1, e5, e2)
	wantPut(t, c, dotOf(1, 7), "x", at(1), e3, e1, e5, e2)
	wantPut(t, c, dotOf(2, 7), "x", at(2), e3, e1, e5, e2)
	wantPut(t, c, dotOf(3, 7), "x", e3, e1, at(3), e5, e2)
	wantPut(t, c, dotOf(4, 7), "x", e3, e1, at(4), e5, e2)
	wantPut(t, c, dotOf(5, 7), "x", e3, e1, e5, e2, at(5))
	wantPut(t, c, dotOf(6, 7), "x", e3, e1, e5, e2, at(6))
	falling := setOf(entryOf(0, 9, "c"), entryOf(0, 6, "b"), entryOf(0, 3, "a"))
	wantPut(t, falling, dotOf(0, 7), "x", entryOf(0, 7, "x"), entryOf(0, 9, "c"), entryOf(0, 6, "b"), entryOf(0, 3, "a"))
	wantPut(t, falling, dotOf(0, 10), "x", entryOf(0, 9, "c"), entryOf(0, 6, "b"), entryOf(0, 3, "a"), entryOf(0, 10, "x"))
}

// Entries of dots that may not be are compared like others, and stay.
func TestPutBesideEntriesOfWrongDots(t *testing.T) {
	low, high := entryOf(math.MinInt, math.MaxInt, "low"), entryOf(math.MaxInt, math.MinInt, "high")
	wantPut(t, setOf(low, high), dotOf(3, 3), "x", low, entryOf(3, 3, "x"), high)
	below, above := entryOf(3, math.MinInt, "below"), entryOf(3, math.MaxInt, "above")
	wantPut(t, setOf(below, above), dotOf(3, 3), "x", below, entryOf(3, 3, "x"), above)
	wantPut(t, setOf(entryOf(0, 0, "zero")), dotOf(0, 1), "x", entryOf(0, 0, "zero"), entryOf(0, 1, "x"))
}

func TestPutAtTheLimits(t *testing.T) {
	for _, d := range []api.Dot{dotOf(0, 1), dotOf(0, 1048575), dotOf(15, 1), dotOf(15, 1048575)} {
		for _, value := range []string{"", "v", strings.Repeat("v", 255), strings.Repeat("v", 256), strings.Repeat("\xff", 256), strings.Repeat("é", 128), "\x00"} {
			wantPut(t, setOf(), d, value, api.Entry{Dot: d, Value: value})
		}
	}
	wantPut(t, setOf(entryOf(0, 1, "a")), dotOf(15, 1048575), "", entryOf(0, 1, "a"), entryOf(15, 1048575, ""))
	wantPut(t, setOf(entryOf(15, 1048575, "a")), dotOf(0, 1), "", entryOf(0, 1, ""), entryOf(15, 1048575, "a"))
}

// A value that is there already, by another dot, is one entry more.
func TestPutOfAValueThatIsThere(t *testing.T) {
	wantPut(t, setOf(entryOf(1, 1, "a")), dotOf(1, 2), "a", entryOf(1, 1, "a"), entryOf(1, 2, "a"))
	wantPut(t, setOf(entryOf(1, 1, "a")), dotOf(2, 1), "a", entryOf(1, 1, "a"), entryOf(2, 1, "a"))
	wantPut(t, setOf(entryOf(1, 1, "a")), dotOf(0, 1), "a", entryOf(0, 1, "a"), entryOf(1, 1, "a"))
}

// P9.1, Put, wrong inputs.

func TestPutIntoOtherKinds(t *testing.T) {
	for _, kind := range otherKinds {
		wantPutRefused(t, full(kind), dotOf(7, 7), "x")
		wantPutRefused(t, api.Cell{Kind: kind}, dotOf(7, 7), "")
		wantPutRefused(t, api.Cell{Kind: kind}, dotOf(99, 0), strings.Repeat("v", 257))
	}
}

func TestPutOfDotsBeyondTheLimits(t *testing.T) {
	for _, node := range farNodes {
		for _, seq := range []int{1, 2, 1048575} {
			wantPutRefused(t, setOf(), dotOf(node, seq), "x")
			wantPutRefused(t, full(api.CellSet), dotOf(node, seq), "x")
		}
		for _, seq := range farSeqs {
			wantPutRefused(t, setOf(), dotOf(node, seq), "x")
		}
	}
	for _, seq := range farSeqs {
		for _, node := range []int{0, 1, 15} {
			wantPutRefused(t, setOf(), dotOf(node, seq), "x")
			wantPutRefused(t, full(api.CellSet), dotOf(node, seq), "x")
		}
	}
	wantPutRefused(t, setOf(), api.Dot{}, "x")
}

func TestPutOfAValueThatIsTooLong(t *testing.T) {
	for _, value := range []string{strings.Repeat("v", 257), strings.Repeat("\x00", 257), strings.Repeat("é", 129), strings.Repeat("v", 512), strings.Repeat("v", 65536+1)} {
		wantPutRefused(t, setOf(), dotOf(1, 1), value)
		wantPutRefused(t, full(api.CellSet), dotOf(7, 7), value)
	}
}

// A dot that is there is refused wherever it stands, whatever its value, in a sorted
// row and in others.
func TestPutOfADotThatIsThere(t *testing.T) {
	rows := [][]api.Entry{
		{entryOf(1, 1, "a")},
		{entryOf(1, 1, "a"), entryOf(1, 2, "b"), entryOf(2, 1, "c"), entryOf(3, 9, "d"), entryOf(4, 1, "e")},
		{entryOf(4, 1, "e"), entryOf(1, 2, "b"), entryOf(3, 9, "d"), entryOf(1, 1, "a"), entryOf(2, 1, "c")},
		{entryOf(4, 1, "e"), entryOf(3, 9, "d"), entryOf(2, 1, "c"), entryOf(1, 2, "b"), entryOf(1, 1, "a")},
		{entryOf(1, 1, "a"), entryOf(1, 1, "b")},
	}
	for _, row := range rows {
		for _, e := range row {
			for _, value := range []string{e.Value, "x", ""} {
				wantPutRefused(t, setOf(row...), e.Dot, value)
			}
		}
	}
}

// P9.1, Drop.

func TestDrop(t *testing.T) {
	a, b, c, d := entryOf(1, 1, "a"), entryOf(1, 2, "b"), entryOf(2, 1, "a"), entryOf(2, 2, "")
	set := setOf(a, b, c, d)
	wantDrop(t, set, nil, a, b, c, d)
	wantDrop(t, set, []api.Dot{}, a, b, c, d)
	wantDrop(t, set, []api.Dot{a.Dot}, b, c, d)
	wantDrop(t, set, []api.Dot{b.Dot}, a, c, d)
	wantDrop(t, set, []api.Dot{c.Dot}, a, b, d)
	wantDrop(t, set, []api.Dot{d.Dot}, a, b, c)
	wantDrop(t, set, []api.Dot{a.Dot, d.Dot}, b, c)
	wantDrop(t, set, []api.Dot{d.Dot, a.Dot}, b, c)
	wantDrop(t, set, []api.Dot{b.Dot, c.Dot}, a, d)
	wantDrop(t, set, []api.Dot{d.Dot, b.Dot, c.Dot, a.Dot})
	wantDrop(t, setOf(a), []api.Dot{a.Dot})
	wantDrop(t, setOf(), []api.Dot{a.Dot})
	wantDrop(t, api.Cell{Kind: api.CellSet}, nil)
}

func TestDropOfTheSameDotTwice(t *testing.T) {
	a, b, c := entryOf(1, 1, "a"), entryOf(1, 2, "b"), entryOf(2, 1, "c")
	wantDrop(t, setOf(a, b, c), []api.Dot{b.Dot, b.Dot}, a, c)
	wantDrop(t, setOf(a, b, c), []api.Dot{b.Dot, a.Dot, b.Dot, a.Dot, b.Dot}, c)
}

// A dot that no entry has takes none, though its Node or its Seq is one's; wrong dots
// are no error here.
func TestDropOfDotsThatNoEntryHas(t *testing.T) {
	a, b := entryOf(1, 2, "a"), entryOf(3, 4, "b")
	var ds []api.Dot
	for _, node := range append([]int{0, 1, 2, 3, 4, 15}, farNodes...) {
		for _, seq := range append([]int{1, 2, 3, 4, 5, 1048575}, farSeqs...) {
			if d := dotOf(node, seq); d != a.Dot && d != b.Dot {
				ds = append(ds, d)
				wantDrop(t, setOf(a, b), []api.Dot{d}, a, b)
			}
		}
	}
	wantDrop(t, setOf(a, b), ds, a, b)
	wantDrop(t, setOf(a, b), append(ds, b.Dot), a)
	wantDrop(t, setOf(a, b), append([]api.Dot{a.Dot}, ds...), b)
}

// Each entry of a dot goes, though there should be one alone; rows that do not stand
// by dots stay as they are; a wrong dot that an entry has may be dropped.
func TestDropFromOddRows(t *testing.T) {
	a, b, c := entryOf(5, 1, "a"), entryOf(1, 9, "b"), entryOf(3, 3, "c")
	wantDrop(t, setOf(a, b, c), []api.Dot{b.Dot}, a, c)
	wantDrop(t, setOf(a, b, c), []api.Dot{c.Dot, a.Dot}, b)
	wantDrop(t, setOf(a, b, c), []api.Dot{dotOf(4, 4)}, a, b, c)
	twin := entryOf(5, 1, "twin")
	wantDrop(t, setOf(a, b, twin, c), []api.Dot{a.Dot}, b, c)
	zero, far := entryOf(0, 0, "zero"), entryOf(math.MinInt, math.MaxInt, "far")
	wantDrop(t, setOf(a, zero, far), []api.Dot{{}}, a, far)
	wantDrop(t, setOf(a, zero, far), []api.Dot{far.Dot}, a, zero)
}

// All drops of all sets of a few dots.
func TestDropOfAllSmallSets(t *testing.T) {
	all := []api.Entry{entryOf(0, 1, "a"), entryOf(0, 2, "b"), entryOf(1, 1, "a"), entryOf(1, 2, "c"), entryOf(2, 1, "")}
	for had := range 1 << len(all) {
		for gone := range 1 << len(all) {
			var entries, left []api.Entry
			var ds []api.Dot
			for i, e := range all {
				if had>>i&1 == 1 {
					entries = append(entries, e)
					if gone>>i&1 == 0 {
						left = append(left, e)
					}
				}
				if gone>>i&1 == 1 {
					ds = append([]api.Dot{e.Dot}, ds...)
				}
			}
			wantDrop(t, setOf(entries...), ds, left...)
		}
	}
}

func TestOtherKinds(t *testing.T) {
	for _, kind := range otherKinds {
		for _, c := range []api.Cell{full(kind), {Kind: kind}} {
			for _, ds := range [][]api.Dot{nil, {dotOf(1, 2)}, {{}}} {
				if got, err := Drop(c, ds); !same(got, api.Cell{}) || err != api.ErrOrsetForm {
					t.Errorf("P9.1: Drop(%v, %v) = %v, %d", c, ds, got, err)
				}
			}
			if got, err := Values(c); len(got) != 0 || err != api.ErrOrsetForm {
				t.Errorf("P9.2: Values(%v) = %q, %d", c, got, err)
			}
			for _, value := range []string{"one", "", "none"} {
				if got, err := Dots(c, value); len(got) != 0 || err != api.ErrOrsetForm {
					t.Errorf("P9.2: Dots(%v, %q) = %v, %d", c, value, got, err)
				}
			}
		}
	}
}

// P9.1: all else of a cell stays, wrong as it may be, the other entries too.
func TestAllElseStays(t *testing.T) {
	c := full(api.CellSet)
	for _, set := range []bool{false, true} {
		c.Set = set
		wantPut(t, c, dotOf(2, 1), "x", entryOf(1, 2, "one"), entryOf(1, 4, "two"), entryOf(2, 1, "x"), entryOf(3, 4, "one"))
		wantDrop(t, c, []api.Dot{dotOf(1, 4)}, entryOf(1, 2, "one"), entryOf(3, 4, "one"))
		wantDrop(t, c, nil, entryOf(1, 2, "one"), entryOf(1, 4, "two"), entryOf(3, 4, "one"))
	}
	long := strings.Repeat("v", 300)
	c.Stamp = api.Stamp{Time: -1, Node: 99}
	c.Value = long
	c.Num = api.Pair{Re: math.MinInt, Im: math.MaxInt}
	c.Seen = []int{math.MinInt, -1, 0, math.MaxInt}
	c.Entries = []api.Entry{entryOf(9, -9, long), entryOf(1, 1, "a")}
	c.Elems = []api.Elem{{Gone: true, Value: "gone"}, {Time: -4}, {Time: -4}}
	wantPut(t, c, dotOf(9, 1), "x", entryOf(9, -9, long), entryOf(1, 1, "a"), entryOf(9, 1, "x"))
	wantDrop(t, c, []api.Dot{dotOf(1, 1)}, entryOf(9, -9, long))
}

// P9.2, Values.

func TestValues(t *testing.T) {
	wantValues(t, api.Cell{Kind: api.CellSet})
	wantValues(t, setOf())
	wantValues(t, setOf(entryOf(1, 1, "a")), "a")
	wantValues(t, setOf(entryOf(1, 1, "")), "")
	wantValues(t, setOf(entryOf(1, 1, "c"), entryOf(1, 2, "a"), entryOf(2, 1, "b")), "a", "b", "c")
	wantValues(t, setOf(entryOf(1, 1, "b"), entryOf(1, 2, "a"), entryOf(2, 1, "b"), entryOf(2, 2, "a"), entryOf(3, 1, "b")), "a", "b")
	wantValues(t, setOf(entryOf(1, 1, ""), entryOf(1, 2, "a"), entryOf(2, 1, "")), "", "a")
	wantValues(t, full(api.CellSet), "one", "two")
}

// By bytes: not by letters, not by runes, not by lengths; one that is the beginning
// of another stands ahead of it.
func TestValuesByBytes(t *testing.T) {
	rising := []string{"", "\x00", "\x00\x00", "\x00a", " ", "10", "9", "A", "Z", "Za", "a", "a\x00", "a ", "aa", "ab", "b", "z", "\x7f", "\x80", "é", "\uffff", "\U00010000", "\xfe", "\xff", "\xff\x00", "\xff\xff"}
	var up, down []api.Entry
	for i, value := range rising {
		up = append(up, entryOf(i, 1, value))
		down = append([]api.Entry{entryOf(i, 1, value)}, down...)
	}
	wantValues(t, setOf(up...), rising...)
	wantValues(t, setOf(down...), rising...)
	wantValues(t, setOf(append(up, down...)...), rising...)
}

// Values that are longer than may be put, and entries of wrong or of one dot, are
// told like others: the promise names the kind alone.
func TestValuesOfOddEntries(t *testing.T) {
	long := strings.Repeat("v", 300)
	wantValues(t, setOf(entryOf(-1, 0, long), entryOf(-1, 0, "w"), entryOf(99, -4, "u")), "u", long, "w")
}

// P9.2, Dots.

func TestDots(t *testing.T) {
	c := setOf(entryOf(1, 1, "b"), entryOf(1, 2, "a"), entryOf(2, 1, "b"), entryOf(2, 7, ""), entryOf(3, 1, "b"))
	wantDots(t, c, "a", dotOf(1, 2))
	wantDots(t, c, "b", dotOf(1, 1), dotOf(2, 1), dotOf(3, 1))
	wantDots(t, c, "", dotOf(2, 7))
	wantDots(t, full(api.CellSet), "one", dotOf(1, 2), dotOf(3, 4))
}

func TestDotsOfAValueThatNoEntryHas(t *testing.T) {
	c := setOf(entryOf(1, 1, "bc"), entryOf(1, 2, "bcd"), entryOf(1, 3, "\xff"))
	for _, value := range []string{"", "b", "bcde", "c", "BC", "bc ", "\x00", "\xfe", "\xff\xff", "\ufffd", strings.Repeat("v", 257), strings.Repeat("v", 70000)} {
		wantDots(t, c, value)
	}
	wantDots(t, c, "bc", dotOf(1, 1))
	wantDots(t, c, "bcd", dotOf(1, 2))
	wantDots(t, c, "\xff", dotOf(1, 3))
	wantDots(t, setOf(), "a")
	wantDots(t, api.Cell{Kind: api.CellSet}, "")
}

// In the entries' row, which is not turned though it does not stand by dots; what may
// not be there is told like the rest.
func TestDotsOfOddRows(t *testing.T) {
	long := strings.Repeat("v", 300)
	c := setOf(entryOf(5, 1, "a"), entryOf(1, 9, "a"), entryOf(1, 1, "b"), entryOf(3, 3, "a"), entryOf(5, 1, "a"), entryOf(-1, math.MinInt, "a"), entryOf(0, 0, long))
	wantDots(t, c, "a", dotOf(5, 1), dotOf(1, 9), dotOf(3, 3), dotOf(5, 1), dotOf(-1, math.MinInt))
	wantDots(t, c, long, dotOf(0, 0))
}

// T2: in whatever row puts come, and each drop behind what it saw, the cell comes to
// the same; a put that a drop did not see stays, though its value is one's.
func TestInAnyRow(t *testing.T) {
	acts := []struct {
		do    func(api.Cell) (api.Cell, api.Errno)
		needs []int
	}{
		{func(c api.Cell) (api.Cell, api.Errno) { return Put(c, dotOf(0, 1), "tea") }, nil},
		{func(c api.Cell) (api.Cell, api.Errno) { return Put(c, dotOf(1, 1), "tea") }, nil},
		{func(c api.Cell) (api.Cell, api.Errno) { return Put(c, dotOf(2, 1), "milk") }, nil},
		{func(c api.Cell) (api.Cell, api.Errno) { return Put(c, dotOf(1, 2), "rum") }, []int{1}},
		{func(c api.Cell) (api.Cell, api.Errno) { return Drop(c, []api.Dot{dotOf(0, 1)}) }, []int{0}},
		{func(c api.Cell) (api.Cell, api.Errno) { return Drop(c, []api.Dot{dotOf(0, 1), dotOf(2, 1)}) }, []int{0, 2}},
	}
	want := api.Cell{Kind: api.CellSet, Entries: []api.Entry{entryOf(1, 1, "tea"), entryOf(1, 2, "rum")}}
	rows := 0
	inAnyRow(len(acts), func(row []int) {
		c := api.Cell{Kind: api.CellSet}
		for i, act := range row {
			for _, need := range acts[act].needs {
				if !slices.Contains(row[:i], need) {
					return
				}
			}
			c, _ = acts[act].do(c)
		}
		rows++
		if !same(c, want) {
			t.Errorf("T2: row %v: %v", row, c)
		}
	})
	if rows < 50 {
		t.Errorf("just %d rows were tried", rows)
	}
}

// inAnyRow calls do with each row of the numbers below n.
func inAnyRow(n int, do func([]int)) {
	var grow func(row []int, used int)
	grow = func(row []int, used int) {
		if len(row) == n {
			do(row)
		}
		for i := range n {
			if used>>i&1 == 0 {
				grow(append(row, i), used|1<<i)
			}
		}
	}
	grow(nil, 0)
}

// R4: behind calls, refused or not, the cell and the dots are as they were, their
// spare room too.
func TestArgumentsStay(t *testing.T) {
	c := full(api.CellSet)
	for _, d := range []api.Dot{dotOf(0, 1), dotOf(2, 1), dotOf(9, 1), dotOf(1, 2), dotOf(16, 1)} {
		Put(c, d, "x")
		wantUntouched(t, c)
	}
	room := []api.Dot{dotOf(3, 4), dotOf(1, 2), dotOf(9, 9), dotOf(1, 2), dotOf(7, 7), dotOf(0, 3)}
	had := slices.Clone(room)
	for n := range 5 {
		Drop(c, room[:n])
		wantUntouched(t, c)
		if !slices.Equal(room, had) {
			t.Errorf("R4: the dots are %v", room)
		}
	}
	Values(c)
	Dots(c, "one")
	wantUntouched(t, c)
	c.Kind = api.CellList
	Put(c, dotOf(2, 1), "x")
	Drop(c, room[:4])
	Values(c)
	Dots(c, "one")
	c.Kind = api.CellSet
	wantUntouched(t, c)
}

// wantUntouched wants c to be full's, its spare room too.
func wantUntouched(t *testing.T, c api.Cell) {
	t.Helper()
	if !reflect.DeepEqual(c, full(api.CellSet)) {
		t.Errorf("R4: the cell is %v", c)
	}
	if !reflect.DeepEqual(c.Entries[:5], full(api.CellSet).Entries[:5]) || c.Elems[:3][2].Value != "spare" || c.Seen[:3][2] != 77 {
		t.Errorf("R4: the spare room is %v, %v, %v", c.Entries[:5], c.Elems[:3], c.Seen[:3])
	}
}

// spoil writes into all that c's lists reach.
func spoil(c api.Cell) {
	entries, elems, seen := c.Entries[:cap(c.Entries)], c.Elems[:cap(c.Elems)], c.Seen[:cap(c.Seen)]
	for i := range entries {
		entries[i] = api.Entry{Value: "spoilt"}
	}
	for i := range elems {
		elems[i] = api.Elem{Value: "spoilt"}
	}
	for i := range seen {
		seen[i] = -1
	}
}

// changes are calls that answer a cell: a put ahead of all, between two, behind all,
// a drop of none, of one, of all.
func changes() []func(api.Cell) api.Cell {
	put := func(d api.Dot) func(api.Cell) api.Cell {
		return func(c api.Cell) api.Cell {
			next, _ := Put(c, d, "x")
			return next
		}
	}
	drop := func(ds ...api.Dot) func(api.Cell) api.Cell {
		return func(c api.Cell) api.Cell {
			next, _ := Drop(c, ds)
			return next
		}
	}
	return []func(api.Cell) api.Cell{
		put(dotOf(0, 1)), put(dotOf(2, 1)), put(dotOf(9, 1)),
		drop(), drop(dotOf(1, 4)), drop(dotOf(1, 2), dotOf(1, 4), dotOf(3, 4)),
	}
}

// R4: what is done to an answer is seen neither in the cell nor in a second answer,
// and what is done to the cell is not seen in an answer.
func TestAnswersShareNoLists(t *testing.T) {
	for i, change := range changes() {
		c := full(api.CellSet)
		first, second, want := change(c), change(c), change(full(api.CellSet))
		spoil(first)
		wantUntouched(t, c)
		if !same(second, want) {
			t.Errorf("R4: change %d: the second answer is %v", i, second)
		}
		spoil(c)
		if !same(second, want) {
			t.Errorf("R4: change %d: the cell's memory is the answer's: %v", i, second)
		}
	}
}

// R4: a list of no length hands no room on.
func TestAnswersShareNoRoomOfEmptyLists(t *testing.T) {
	for _, change := range changes() {
		c := full(api.CellSet)
		c.Entries, c.Elems, c.Seen = c.Entries[:0], c.Elems[:0], c.Seen[:0]
		spoil(change(c))
		c.Entries, c.Elems, c.Seen = c.Entries[:3], c.Elems[:2], c.Seen[:2]
		wantUntouched(t, c)
	}
}

// R4 of the lists that Values and Dots answer.
func TestListsShareNoMemory(t *testing.T) {
	c := full(api.CellSet)
	values, _ := Values(c)
	values = values[:cap(values)]
	for i := range values {
		values[i] = "spoilt"
	}
	wantUntouched(t, c)
	wantValues(t, c, "one", "two")
	dots, _ := Dots(c, "one")
	dots = dots[:cap(dots)]
	for i := range dots {
		dots[i] = dotOf(-7, -7)
	}
	wantUntouched(t, c)
	wantDots(t, c, "one", dotOf(1, 2), dotOf(3, 4))
}

// R4 of texts: an answer keeps hold of none that was handed in, and two answers of
// none together.
func TestAnswersShareNoTexts(t *testing.T) {
	c, value := full(api.CellSet), strings.Clone("new")
	apart := func(a, b string) {
		t.Helper()
		if a != b || unsafe.StringData(a) == unsafe.StringData(b) {
			t.Errorf("R4: %q and %q", a, b)
		}
	}
	put, _ := Put(c, dotOf(0, 1), value)
	apart(value, put.Entries[0].Value)
	apart(c.Entries[0].Value, put.Entries[1].Value)
	apart(c.Elems[0].Value, put.Elems[0].Value)
	apart(c.Value, put.Value)
	dropped, _ := Drop(c, []api.Dot{dotOf(1, 4)})
	apart(c.Entries[0].Value, dropped.Entries[0].Value)
	apart(c.Entries[2].Value, dropped.Entries[1].Value)
	apart(c.Elems[0].Value, dropped.Elems[0].Value)
	apart(c.Value, dropped.Value)
	values, _ := Values(c)
	apart(c.Entries[1].Value, values[1])
	again, _ := Values(c)
	apart(values[1], again[1])
	for _, i := range []int{0, 2} {
		apart(c.Entries[i].Value, values[0])
	}
}

// R5: the same arguments, the same answers, whatever was asked in between.
func TestSecondCallsAnswerAlike(t *testing.T) {
	c := full(api.CellSet)
	one, two, three := c.Entries[0], c.Entries[1], c.Entries[2]
	for range 3 {
		wantPut(t, c, dotOf(2, 1), "x", one, two, entryOf(2, 1, "x"), three)
		wantPutRefused(t, c, dotOf(1, 2), "x")
		wantDrop(t, c, []api.Dot{three.Dot, one.Dot}, two)
		wantValues(t, c, "one", "two")
		wantDots(t, c, "one", one.Dot, three.Dot)
		wantDots(t, c, "x")
	}
}

// R5: plain functions may be called from several goroutines at one time, over one
// cell and one list of dots.
func TestSeveralGoroutines(t *testing.T) {
	c := full(api.CellSet)
	one, two, three := c.Entries[0], c.Entries[1], c.Entries[2]
	ds := []api.Dot{three.Dot, two.Dot, dotOf(9, 9)}
	var all sync.WaitGroup
	for worker := range 8 {
		all.Go(func() {
			for i := range 300 {
				wantPut(t, c, dotOf(2, 1+i), "x", one, two, entryOf(2, 1+i, "x"), three)
				wantPutRefused(t, c, dotOf(16+worker, 1), "x")
				wantDrop(t, c, ds, one)
				wantValues(t, c, "one", "two")
				wantDots(t, c, "one", one.Dot, three.Dot)
			}
		})
	}
	all.Wait()
}

// R1: many entries and many dots end soon, in whatever row they stand.
func TestManyEntries(t *testing.T) {
	const many = 100000
	var entries []api.Entry
	var ds []api.Dot
	for i := range many {
		entries = append(entries, entryOf(i%16, 1+i/16, []string{"a", "b", "c"}[i%3]))
		ds = append(ds, dotOf(15-i%16, many-i/16))
	}
	c := setOf(entries...)
	if got, err := Values(c); !slices.Equal(got, []string{"a", "b", "c"}) || err != api.OK {
		t.Errorf("P9.2: %d values, %d", len(got), err)
	}
	if got, err := Drop(c, ds); len(got.Entries) != many || err != api.OK {
		t.Errorf("P9.1: %d entries, %d", len(got.Entries), err)
	}
	for i := range ds {
		ds[i] = entries[len(entries)-1-i].Dot
	}
	if got, err := Drop(c, ds); len(got.Entries) != 0 || err != api.OK {
		t.Errorf("P9.1: %d entries, %d", len(got.Entries), err)
	}
	if got, err := Drop(c, ds[1:]); !slices.Equal(got.Entries, entries[many-1:]) || err != api.OK {
		t.Errorf("P9.1: %d entries, %d", len(got.Entries), err)
	}
	if got, err := Dots(c, "b"); len(got) != many/3 || err != api.OK {
		t.Errorf("P9.2: %d dots, %d", len(got), err)
	}
}

// Sets against plain lists of what was put and dropped, over rows of the fuzzer's own:
// each two bytes are an act.
func FuzzSets(f *testing.F) {
	f.Add("")
	f.Add("\x01\x02\x11\x03\x81\x02")
	f.Add("aAbBcCaAzZ\xff\x00\x80\x11")
	f.Fuzz(func(t *testing.T, acts string) {
		c := setOf()
		has := map[api.Dot]string{}
		for ; len(acts) > 1; acts = acts[2:] {
			d, value := dotOf(int(acts[0]>>4&7), 1+int(acts[0]&15)), acts[1:2]
			if acts[0] >= 128 {
				c, _ = Drop(c, []api.Dot{d, dotOf(1, 1)})
				delete(has, d)
				delete(has, dotOf(1, 1))
				continue
			}
			if _, there := has[d]; there {
				wantPutRefused(t, c, d, value)
				continue
			}
			c, _ = Put(c, d, value)
			has[d] = value
		}
		wantSet(t, c, has)
	})
}

// wantSet wants c to have just those entries, and to tell of them rightly.
func wantSet(t *testing.T, c api.Cell, has map[api.Dot]string) {
	t.Helper()
	var entries []api.Entry
	byValue := map[string][]api.Dot{}
	for d, value := range has {
		entries = append(entries, api.Entry{Dot: d, Value: value})
	}
	slices.SortFunc(entries, func(a, b api.Entry) int {
		return cmp.Or(cmp.Compare(a.Dot.Node, b.Dot.Node), cmp.Compare(a.Dot.Seq, b.Dot.Seq))
	})
	if !same(c, setOf(entries...)) {
		t.Fatalf("P9.1: %v, want %v", c, entries)
	}
	var values []string
	for _, e := range entries {
		if byValue[e.Value] == nil {
			values = append(values, e.Value)
		}
		byValue[e.Value] = append(byValue[e.Value], e.Dot)
	}
	slices.Sort(values)
	wantValues(t, c, values...)
	for value, dots := range byValue {
		wantDots(t, c, value, dots...)
	}
}
