package count

import (
	"math"
	"reflect"
	"strings"
	"sync"
	"testing"
	"unsafe"

	"tattle/api"
)

// most is the greatest part, in digits of the document's own.
const most = 4503599627370496

// edges are parts that may be.
var edges = []int{-most, -most + 1, -most / 2, -1 << 32, -2, -1, 0, 1, 2, 1 << 32, most / 2, most - 1, most}

// far are parts that may not be; some look right once they are rounded to a float
// or once their upper bits are gone.
var far = []int{math.MinInt, math.MinInt + 1, math.MinInt + most, -1<<53 - 1, -1 << 53, -most - 2, -most - 1, most + 1, most + 2, 1 << 53, 1<<53 + 1, 1 << 60, 1<<60 + 5, math.MaxInt - most, math.MaxInt - 1, math.MaxInt}

func pairOf(re, im int) api.Pair {
	return api.Pair{Re: re, Im: im}
}

// counted is a plain cell that has come to num.
func counted(num api.Pair) api.Cell {
	return api.Cell{Kind: api.CellCount, Num: num, Seen: []int{1, 2}}
}

// full is a cell of that kind in which everything stands, with spare room behind
// each list.
func full(kind int) api.Cell {
	entries := []api.Entry{{Dot: api.Dot{Node: 1, Seq: 2}, Value: "one"}, {Dot: api.Dot{Node: 3, Seq: 4}}, {Value: "spare"}}
	elems := []api.Elem{{Dot: api.Dot{Node: 5, Seq: 6}, Time: 7, Value: "two"}, {Time: 8, Gone: true}, {Value: "spare"}}
	seen := []int{9, 10, 77}
	return api.Cell{
		Kind:    kind,
		Set:     true,
		Stamp:   api.Stamp{Time: 500, Node: 7},
		Value:   "old",
		Num:     pairOf(13, 14),
		Entries: entries[:2],
		Elems:   elems[:2],
		Seen:    seen[:2],
	}
}

// same tells whether a and b are one cell; an empty list and nil are one.
func same(a, b api.Cell) bool {
	for _, c := range []*api.Cell{&a, &b} {
		if len(c.Entries) == 0 {
			c.Entries = nil
		}
		if len(c.Elems) == 0 {
			c.Elems = nil
		}
		if len(c.Seen) == 0 {
			c.Seen = nil
		}
	}
	return reflect.DeepEqual(a, b)
}

// wantNum wants c to come to num, and all else of it to stay.
func wantNum(t *testing.T, c api.Cell, p, num api.Pair) {
	t.Helper()
	want := c
	want.Num = num
	if got, err := Add(c, p); !same(got, want) || err != api.OK {
		t.Errorf("P8.1: Add(%v, %v) = %v, %d, want %v", c, p, got, err, want)
	}
}

// wantRefused wants nothing beside the error (R2).
func wantRefused(t *testing.T, c api.Cell, p api.Pair) {
	t.Helper()
	if got, err := Add(c, p); !same(got, api.Cell{}) || err != api.ErrCountForm {
		t.Errorf("P8.1: Add(%v, %v) = %v, %d, want ErrCountForm", c, p, got, err)
	}
}

func TestNumbersAreTheDocuments(t *testing.T) {
	if api.CellCount != 1 || api.ErrCountForm != 800 || api.OK != 0 || api.MaxPart != most {
		t.Fatalf("CellCount %d, ErrCountForm %d, OK %d, MaxPart %d", api.CellCount, api.ErrCountForm, api.OK, int(api.MaxPart))
	}
}

// P8.1, ordinary inputs.

func TestAddToANewCell(t *testing.T) {
	got, err := Add(api.Cell{Kind: api.CellCount}, pairOf(3, -4))
	if want := (api.Cell{Kind: 1, Num: pairOf(3, -4)}); !same(got, want) || err != api.OK {
		t.Errorf("P8.1: %v, %d, want %v", got, err, want)
	}
	for _, re := range edges {
		for _, im := range edges {
			wantNum(t, api.Cell{Kind: api.CellCount}, pairOf(re, im), pairOf(re, im))
		}
	}
}

func TestAddToACellThatHasCounted(t *testing.T) {
	wantNum(t, counted(pairOf(3, 4)), pairOf(10, 200), pairOf(13, 204))
	wantNum(t, counted(pairOf(-3, 4)), pairOf(10, -200), pairOf(7, -196))
	wantNum(t, counted(pairOf(3, -4)), pairOf(-10, 200), pairOf(-7, 196))
	wantNum(t, counted(pairOf(-3, -4)), pairOf(-10, -200), pairOf(-13, -204))
	wantNum(t, counted(pairOf(-3, -4)), pairOf(3, 4), pairOf(0, 0))
	wantNum(t, full(api.CellCount), pairOf(1, 1), pairOf(14, 15))
	wantNum(t, full(api.CellCount), pairOf(-14, -15), pairOf(-1, -1))
}

// The parts do not run into each other, as they would in a product.
func TestAddIsPartByPart(t *testing.T) {
	wantNum(t, counted(pairOf(0, 2)), pairOf(0, 3), pairOf(0, 5))
	wantNum(t, counted(pairOf(2, 0)), pairOf(3, 0), pairOf(5, 0))
	wantNum(t, counted(pairOf(2, 0)), pairOf(0, 3), pairOf(2, 3))
	wantNum(t, counted(pairOf(0, 2)), pairOf(3, 0), pairOf(3, 2))
	wantNum(t, counted(pairOf(most, 0)), pairOf(0, 1), pairOf(most, 1))
	wantNum(t, counted(pairOf(0, -most)), pairOf(-1, 0), pairOf(-1, -most))
}

func TestAddOfNoughts(t *testing.T) {
	wantNum(t, api.Cell{Kind: api.CellCount}, pairOf(0, 0), pairOf(0, 0))
	for _, re := range edges {
		for _, im := range edges {
			wantNum(t, counted(pairOf(re, im)), pairOf(0, 0), pairOf(re, im))
		}
	}
}

// P8.1: what comes out is at a limit, or one beyond it, in one part alone, while the
// other part is whatever it may be.
func TestAddAboutTheLimits(t *testing.T) {
	for _, sign := range []int{-1, 1} {
		for _, x := range []int{0, 1, 2, 1 << 32, most / 2, most - 1, most} {
			for _, other := range []int{-most, -1, 0, 1, most} {
				had, more := sign*x, sign*(most-x)
				wantNum(t, counted(pairOf(had, other)), pairOf(more, 0), pairOf(sign*most, other))
				wantNum(t, counted(pairOf(other, had)), pairOf(0, more), pairOf(other, sign*most))
				wantRefused(t, counted(pairOf(had, other)), pairOf(more+sign, 0))
				wantRefused(t, counted(pairOf(other, had)), pairOf(0, more+sign))
			}
		}
	}
	wantNum(t, counted(pairOf(most-1, 1-most)), pairOf(1, -1), pairOf(most, -most))
	wantRefused(t, counted(pairOf(most, -most)), pairOf(1, 1))
	wantRefused(t, counted(pairOf(most, -most)), pairOf(-1, -1))
	wantRefused(t, counted(pairOf(most, most)), pairOf(most, most))
	wantRefused(t, counted(pairOf(-most, -most)), pairOf(-most, -most))
}

// Each edge against each: exact to the last bit, and refused just beyond the limits.
func TestAddOfAllEdges(t *testing.T) {
	for _, re := range edges {
		for _, im := range edges {
			for _, re2 := range edges {
				for _, im2 := range edges {
					want := pairOf(re+re2, im+im2)
					if max(want.Re, want.Im) > most || min(want.Re, want.Im) < -most {
						wantRefused(t, counted(pairOf(re, im)), pairOf(re2, im2))
					} else {
						wantNum(t, counted(pairOf(re, im)), pairOf(re2, im2), want)
					}
				}
			}
		}
	}
}

// P8.1, wrong inputs.

func TestAddToOtherKinds(t *testing.T) {
	kinds := []int{api.CellLww, api.CellSet, api.CellList, 4, 5, 9, 100, -1, -2, 1 << 8, 1<<8 + 1, 1 << 32, 1<<32 + 1, math.MinInt, math.MinInt + 1, math.MaxInt - 1, math.MaxInt}
	for _, kind := range kinds {
		wantRefused(t, full(kind), pairOf(1, 2))
		wantRefused(t, full(kind), pairOf(0, 0))
		wantRefused(t, api.Cell{Kind: kind}, pairOf(0, 0))
		wantRefused(t, api.Cell{Kind: kind}, pairOf(most+1, 0))
	}
}

// A part that may not be is refused, on whichever side it stands, even where the sum
// would be within the limits.
func TestAddOfPartsBeyondTheLimits(t *testing.T) {
	others := []api.Pair{{}, {Re: 1, Im: 1}, {Re: -1, Im: -1}, {Re: most, Im: most}, {Re: -most, Im: -most}}
	for _, x := range far {
		for _, y := range []int{-most, 0, 1, most} {
			for _, other := range others {
				wantRefused(t, counted(pairOf(x, y)), other)
				wantRefused(t, counted(pairOf(y, x)), other)
				wantRefused(t, counted(other), pairOf(x, y))
				wantRefused(t, counted(other), pairOf(y, x))
			}
		}
		for _, y := range far {
			wantRefused(t, counted(pairOf(x, y)), pairOf(0, 0))
			wantRefused(t, counted(pairOf(0, 0)), pairOf(x, y))
			wantRefused(t, counted(pairOf(x, 0)), pairOf(y, 0))
			wantRefused(t, counted(pairOf(0, x)), pairOf(0, y))
			wantRefused(t, counted(pairOf(x, 0)), pairOf(0, y))
		}
	}
}

// A number that may not be is refused in a cell in which everything stands, too.
func TestAddToAFullCellOfAWrongNumber(t *testing.T) {
	for _, x := range far {
		c := full(api.CellCount)
		c.Num = pairOf(x, 0)
		wantRefused(t, c, pairOf(0, 0))
		c.Num = pairOf(0, x)
		wantRefused(t, c, pairOf(0, 0))
		wantRefused(t, full(api.CellCount), pairOf(x, 0))
		wantRefused(t, full(api.CellCount), pairOf(0, x))
	}
}

// P8.1: all else of a cell stays, Set too, wrong as it may be.
func TestAllElseStays(t *testing.T) {
	c := full(api.CellCount)
	for _, set := range []bool{false, true} {
		c.Set = set
		wantNum(t, c, pairOf(2, -3), pairOf(15, 11))
	}
	c.Stamp = api.Stamp{Time: -1, Node: 99}
	c.Value = strings.Repeat("v", 300)
	c.Seen = []int{math.MinInt, -1, 0, math.MaxInt}
	c.Entries = []api.Entry{{Dot: api.Dot{Node: 9, Seq: -9}, Value: "b"}, {Value: "b"}, {Value: "a"}}
	c.Elems = []api.Elem{{Gone: true, Value: "gone"}, {Time: -4}, {Time: -4}}
	wantNum(t, c, pairOf(2, -3), pairOf(15, 11))
	wantNum(t, c, pairOf(0, 0), pairOf(13, 14))
}

// T2: in whatever row what is added comes, the cell comes to the same.
func TestAddInAnyRow(t *testing.T) {
	more := []api.Pair{pairOf(1, -20), pairOf(-300, 4000), pairOf(50000, 0), pairOf(0, -600000), pairOf(most/8, -most/8)}
	want := api.Cell{Kind: api.CellCount, Num: pairOf(most/8+49701, -most/8-596020)}
	inAnyRow(len(more), func(row []int) {
		c := api.Cell{Kind: api.CellCount}
		for _, i := range row {
			c, _ = Add(c, more[i])
		}
		if !same(c, want) {
			t.Errorf("T2: row %v: %v", row, c)
		}
	})
}

// inAnyRow calls do with each row of the numbers below n.
func inAnyRow(n int, do func([]int)) {
	var grow func(row []int, used int)
	grow = func(row []int, used int) {
		if len(row) == n {
			do(row)
		}
		for i := range n {
			if used>>i&1 == 0 {
				grow(append(row, i), used|1<<i)
			}
		}
	}
	grow(nil, 0)
}

// R4: behind a call, refused or not, the cell is as it was, its spare room too.
func TestArgumentsStay(t *testing.T) {
	for _, p := range []api.Pair{pairOf(1, 2), pairOf(0, 0), pairOf(most, 0), pairOf(0, math.MinInt)} {
		c := full(api.CellCount)
		Add(c, p)
		wantUntouched(t, c)
	}
	c := full(api.CellList)
	Add(c, pairOf(1, 2))
	c.Kind = api.CellCount
	wantUntouched(t, c)
}

// wantUntouched wants c to be full's, its spare room too.
func wantUntouched(t *testing.T, c api.Cell) {
	t.Helper()
	if !reflect.DeepEqual(c, full(api.CellCount)) {
		t.Errorf("R4: the cell is %v", c)
	}
	if c.Entries[:3][2].Value != "spare" || c.Elems[:3][2].Value != "spare" || c.Seen[:3][2] != 77 {
		t.Errorf("R4: the spare room is %v, %v, %v", c.Entries[:3], c.Elems[:3], c.Seen[:3])
	}
}

// spoil writes into all that c's lists reach.
func spoil(c api.Cell) {
	entries, elems, seen := c.Entries[:cap(c.Entries)], c.Elems[:cap(c.Elems)], c.Seen[:cap(c.Seen)]
	for i := range entries {
		entries[i] = api.Entry{Value: "spoilt"}
	}
	for i := range elems {
		elems[i] = api.Elem{Value: "spoilt"}
	}
	for i := range seen {
		seen[i] = -1
	}
}

// R4: what is done to an answer is seen neither in the cell nor in a second answer,
// and what is done to the cell is not seen in an answer; so where nought was added.
func TestAnswersShareNoLists(t *testing.T) {
	for _, p := range []api.Pair{pairOf(1, 2), pairOf(0, 0)} {
		c := full(api.CellCount)
		first, _ := Add(c, p)
		second, _ := Add(c, p)
		want, _ := Add(full(api.CellCount), p)
		spoil(first)
		wantUntouched(t, c)
		if !same(second, want) {
			t.Errorf("R4: adding %v: the second answer is %v", p, second)
		}
		spoil(c)
		if !same(second, want) {
			t.Errorf("R4: adding %v: the cell's memory is the answer's: %v", p, second)
		}
	}
}

// R4: a list of no length hands no room on.
func TestAnswersShareNoRoomOfEmptyLists(t *testing.T) {
	c := full(api.CellCount)
	c.Entries, c.Elems, c.Seen = c.Entries[:0], c.Elems[:0], c.Seen[:0]
	got, _ := Add(c, pairOf(1, 2))
	spoil(got)
	c.Entries, c.Elems, c.Seen = c.Entries[:2], c.Elems[:2], c.Seen[:2]
	wantUntouched(t, c)
}

// R4 of texts: an answer keeps hold of none that was handed in.
func TestAnswersShareNoTexts(t *testing.T) {
	for _, p := range []api.Pair{pairOf(1, 2), pairOf(0, 0)} {
		c := full(api.CellCount)
		got, _ := Add(c, p)
		pairs := [][2]string{{c.Value, got.Value}, {c.Entries[0].Value, got.Entries[0].Value}, {c.Elems[0].Value, got.Elems[0].Value}}
		for _, texts := range pairs {
			if unsafe.StringData(texts[0]) == unsafe.StringData(texts[1]) {
				t.Errorf("R4: adding %v: %q is shared", p, texts[0])
			}
		}
	}
}

// R5: the same arguments, the same answers, whatever was asked in between.
func TestSecondCallsAnswerAlike(t *testing.T) {
	c := full(api.CellCount)
	for range 3 {
		wantNum(t, c, pairOf(1, 2), pairOf(14, 16))
		wantRefused(t, c, pairOf(most, 0))
		wantNum(t, c, pairOf(-13, -14), pairOf(0, 0))
		wantNum(t, api.Cell{Kind: api.CellCount}, pairOf(5, 6), pairOf(5, 6))
	}
}

// R5: plain functions may be called from several goroutines at one time, over one
// cell.
func TestSeveralGoroutines(t *testing.T) {
	c := full(api.CellCount)
	var all sync.WaitGroup
	for worker := range 8 {
		all.Go(func() {
			for i := range 300 {
				wantNum(t, c, pairOf(i, -worker), pairOf(13+i, 14-worker))
				wantRefused(t, c, pairOf(most, worker))
			}
		})
	}
	all.Wait()
}

// Cells against whole numbers, over parts of the fuzzer's own.
func FuzzAdd(f *testing.F) {
	f.Add(0, 0, 0, 0)
	f.Add(most, -most, 1, -1)
	f.Add(math.MinInt, 0, math.MaxInt, -1)
	f.Fuzz(func(t *testing.T, re, im, re2, im2 int) {
		out := false
		for _, x := range []int{re, im, re2, im2} {
			out = out || x < -most || x > most
		}
		c := full(api.CellCount)
		c.Num = pairOf(re, im)
		// Where all parts may be, the sums stay far within what an int holds.
		want := pairOf(re+re2, im+im2)
		if out || max(want.Re, want.Im) > most || min(want.Re, want.Im) < -most {
			wantRefused(t, c, pairOf(re2, im2))
		} else {
			wantNum(t, c, pairOf(re2, im2), want)
		}
	})
}
