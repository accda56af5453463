package lww

import (
	"math"
	"reflect"
	"strings"
	"sync"
	"testing"
	"unsafe"

	"tattle/api"
)

func stamp(time, node int) api.Stamp {
	return api.Stamp{Time: time, Node: node}
}

// written is a plain cell, as it is once value was written at s.
func written(s api.Stamp, value string) api.Cell {
	return api.Cell{Kind: api.CellLww, Set: true, Stamp: s, Value: value, Seen: []int{1, 2}}
}

// full is a cell of that kind in which everything stands, with spare room behind
// each list.
func full(kind int) api.Cell {
	entries := []api.Entry{{Dot: api.Dot{Node: 1, Seq: 2}, Value: "one"}, {Dot: api.Dot{Node: 3, Seq: 4}}, {Value: "spare"}}
	elems := []api.Elem{{Dot: api.Dot{Node: 5, Seq: 6}, Time: 7, Value: "two"}, {Time: 8, Gone: true}, {Value: "spare"}}
	seen := []int{9, 10, 77}
	return api.Cell{
		Kind:    kind,
		Set:     true,
		Stamp:   stamp(500, 7),
		Value:   "old",
		Num:     api.Pair{Re: 13, Im: 14},
		Entries: entries[:2],
		Elems:   elems[:2],
		Seen:    seen[:2],
	}
}

// same tells whether a and b are one cell; an empty list and nil are one.
func same(a, b api.Cell) bool {
	for _, c := range []*api.Cell{&a, &b} {
		if len(c.Entries) == 0 {
			c.Entries = nil
		}
		if len(c.Elems) == 0 {
			c.Elems = nil
		}
		if len(c.Seen) == 0 {
			c.Seen = nil
		}
	}
	return reflect.DeepEqual(a, b)
}

// wantTaken wants the write to be taken: all but Set, Stamp and Value stays.
func wantTaken(t *testing.T, c api.Cell, s api.Stamp, value string) {
	t.Helper()
	want := c
	want.Set, want.Stamp, want.Value = true, s, value
	if got, err := Set(c, s, value); !same(got, want) || err != api.OK {
		t.Errorf("P7.1: Set(%v, %v, %q) = %v, %d, want %v", c, s, value, got, err, want)
	}
}

// wantLeft wants the cell to come out as it was.
func wantLeft(t *testing.T, c api.Cell, s api.Stamp, value string) {
	t.Helper()
	if got, err := Set(c, s, value); !same(got, c) || err != api.OK {
		t.Errorf("P7.1: Set(%v, %v, %q) = %v, %d, want the cell", c, s, value, got, err)
	}
}

// wantRefused wants nothing beside the error (R2).
func wantRefused(t *testing.T, c api.Cell, s api.Stamp, value string) {
	t.Helper()
	if got, err := Set(c, s, value); !same(got, api.Cell{}) || err != api.ErrLwwForm {
		t.Errorf("P7.1: Set(%v, %v, %.20q of %d) = %v, %d, want ErrLwwForm", c, s, value, len(value), got, err)
	}
}

func TestNumbersAreTheDocuments(t *testing.T) {
	if api.CellLww != 0 || api.ErrLwwForm != 700 || api.OK != 0 {
		t.Fatalf("CellLww %d, ErrLwwForm %d, OK %d", api.CellLww, api.ErrLwwForm, api.OK)
	}
	if api.MaxTime != 16777215 || api.MaxNodes != 16 || api.MaxValue != 256 {
		t.Fatalf("MaxTime %d, MaxNodes %d, MaxValue %d", api.MaxTime, api.MaxNodes, api.MaxValue)
	}
}

// P7.1, ordinary inputs.

func TestSetOfACellThatIsNotSet(t *testing.T) {
	got, err := Set(api.Cell{}, stamp(3, 1), "tea")
	if want := (api.Cell{Set: true, Stamp: stamp(3, 1), Value: "tea"}); !same(got, want) || err != api.OK {
		t.Errorf("P7.1: %v, %d, want %v", got, err, want)
	}
	wantTaken(t, api.Cell{Seen: []int{0, 4}}, stamp(1, 0), "")
	wantTaken(t, api.Cell{Seen: []int{0, 4}}, stamp(16777215, 15), "x")
}

// A cell that is not Set takes what comes, whatever else stands in it.
func TestSetOfACellWithAStampThatIsNotSet(t *testing.T) {
	for _, s := range []api.Stamp{stamp(9, 9), stamp(1, 0), stamp(16777215, 15), stamp(math.MaxInt, math.MaxInt)} {
		c := full(api.CellLww)
		c.Set, c.Stamp = false, s
		wantTaken(t, c, stamp(1, 0), "new")
		wantTaken(t, c, stamp(9, 9), "new")
		wantTaken(t, c, stamp(16777215, 15), "new")
	}
}

func TestSetByTime(t *testing.T) {
	c := written(stamp(500, 7), "old")
	wantTaken(t, c, stamp(501, 7), "new")
	wantTaken(t, c, stamp(501, 0), "new")
	wantTaken(t, c, stamp(9000, 3), "new")
	wantLeft(t, c, stamp(499, 7), "new")
	wantLeft(t, c, stamp(499, 15), "new")
	wantLeft(t, c, stamp(1, 8), "new")
}

func TestSetByNode(t *testing.T) {
	c := written(stamp(500, 7), "old")
	wantTaken(t, c, stamp(500, 8), "new")
	wantTaken(t, c, stamp(500, 15), "new")
	wantLeft(t, c, stamp(500, 6), "new")
	wantLeft(t, c, stamp(500, 0), "new")
}

// Of one stamp the first value stays, whichever of them is the greater one.
func TestSetOfTheSameStamp(t *testing.T) {
	for _, s := range []api.Stamp{stamp(1, 0), stamp(500, 7), stamp(16777215, 15)} {
		for _, value := range []string{"", "a", "mid", "z"} {
			wantLeft(t, written(s, "mid"), s, value)
			wantLeft(t, written(s, ""), s, value)
		}
	}
}

// The value of a write has no say: not its length, not its bytes.
func TestSetHangsOnTheStampAlone(t *testing.T) {
	values := []string{"", "\x00", "a", "b", "long and long", "\xff\xfe", "é\n\"\\"}
	for _, old := range values {
		for _, value := range values {
			wantTaken(t, written(stamp(5, 2), old), stamp(5, 3), value)
			wantLeft(t, written(stamp(5, 2), old), stamp(5, 1), value)
		}
	}
}

// P7.1, each pair of stamps: the later one stays, by Time, then by Node.
func TestSetOfAllPairsOfStamps(t *testing.T) {
	var row []api.Stamp
	for _, time := range []int{1, 2, 3, 255, 256, 65536, 16777214, 16777215} {
		for node := range 16 {
			row = append(row, stamp(time, node))
		}
	}
	for i, old := range row {
		for k, s := range row {
			if i < k {
				wantTaken(t, written(old, "old"), s, "new")
			} else {
				wantLeft(t, written(old, "old"), s, "new")
			}
		}
	}
}

// What the cell's own stamp is, is not asked, but for the comparison.
func TestSetOfCellsWithStampsBeyondTheLimits(t *testing.T) {
	far := []int{1 << 32, 1<<32 + 3, math.MaxInt - 1, math.MaxInt}
	for _, x := range far {
		wantLeft(t, written(stamp(x, 0), "old"), stamp(16777215, 15), "new")
		wantTaken(t, written(stamp(-x, 15), "old"), stamp(1, 0), "new")
		wantLeft(t, written(stamp(5, x), "old"), stamp(5, 15), "new")
		wantTaken(t, written(stamp(5, -x), "old"), stamp(5, 0), "new")
	}
	wantTaken(t, written(stamp(math.MinInt, math.MaxInt), "old"), stamp(1, 0), "new")
	wantTaken(t, written(stamp(1, math.MinInt), "old"), stamp(1, 0), "new")
	wantTaken(t, written(stamp(0, 15), "old"), stamp(1, 0), "new")
}

// P7.1, the edges of a value.

func TestSetOfValuesAboutTheLimit(t *testing.T) {
	for _, c := range []api.Cell{{}, written(stamp(4, 4), "old"), full(api.CellLww)} {
		for length := range 257 {
			wantTaken(t, c, stamp(16777215, 15), strings.Repeat("x", length))
		}
		for _, length := range []int{257, 258, 512, 65536, 1 << 20} {
			wantRefused(t, c, stamp(16777215, 15), strings.Repeat("x", length))
			wantRefused(t, c, stamp(1, 0), strings.Repeat("x", length))
		}
	}
}

// Bytes are counted, not letters.
func TestSetCountsBytes(t *testing.T) {
	wantTaken(t, api.Cell{}, stamp(1, 0), strings.Repeat("é", 128))
	wantRefused(t, api.Cell{}, stamp(1, 0), strings.Repeat("é", 128)+"x")
	wantTaken(t, api.Cell{}, stamp(1, 0), strings.Repeat("\x00", 256))
	wantTaken(t, api.Cell{}, stamp(1, 0), strings.Repeat("\xff", 256))
	wantRefused(t, api.Cell{}, stamp(1, 0), strings.Repeat("\xff", 257))
}

// A cell's own value is not asked for its length.
func TestSetOfACellWithALongValue(t *testing.T) {
	long := strings.Repeat("v", 300)
	wantLeft(t, written(stamp(5, 5), long), stamp(5, 4), "new")
	wantTaken(t, written(stamp(5, 5), long), stamp(5, 6), "new")
}

// P7.1, wrong inputs.

func TestSetOfOtherKinds(t *testing.T) {
	kinds := []int{api.CellCount, api.CellSet, api.CellList, 4, 5, 9, 100, -1, -2, 1 << 8, 1 << 32, math.MinInt, math.MinInt + 1, math.MaxInt - 1, math.MaxInt}
	for _, kind := range kinds {
		wantRefused(t, full(kind), stamp(501, 7), "new")
		wantRefused(t, full(kind), stamp(1, 0), "new")
		wantRefused(t, api.Cell{Kind: kind}, stamp(1, 0), "")
	}
}

func TestSetOfTimesAboutTheLimits(t *testing.T) {
	for _, c := range []api.Cell{{}, {Set: true}, full(api.CellLww)} {
		for _, time := range []int{0, -1, -2, 16777216, 16777217, 1 << 32, 1<<32 + 1, 1<<32 + 501, math.MinInt, math.MinInt + 1, math.MaxInt - 1, math.MaxInt} {
			for node := range 16 {
				wantRefused(t, c, stamp(time, node), "new")
			}
		}
	}
	wantTaken(t, api.Cell{Set: true}, stamp(1, 0), "new")
	wantTaken(t, full(api.CellLww), stamp(16777215, 0), "new")
	wantTaken(t, full(api.CellLww), stamp(16777214, 15), "new")
}

func TestSetOfNodesAboutTheLimits(t *testing.T) {
	for _, c := range []api.Cell{{}, {Set: true}, full(api.CellLww)} {
		for _, node := range []int{-1, -2, -16, 16, 17, 32, 256, 1 << 32, 1<<32 + 3, math.MinInt, math.MinInt + 3, math.MaxInt - 1, math.MaxInt} {
			for _, time := range []int{1, 500, 16777215} {
				wantRefused(t, c, stamp(time, node), "new")
			}
		}
		wantTaken(t, c, stamp(501, 0), "new")
		wantTaken(t, c, stamp(501, 15), "new")
	}
}

// A stamp is looked at even where the cell would have stayed as it was.
func TestSetRefusesWrongStampsOfTheCellsOwn(t *testing.T) {
	for _, s := range []api.Stamp{{}, stamp(0, 3), stamp(16777216, 3), stamp(5, 16), stamp(5, -1), stamp(math.MaxInt, math.MaxInt)} {
		wantRefused(t, written(s, "old"), s, "new")
	}
}

func TestSetOfMoreThanOneFault(t *testing.T) {
	wantRefused(t, full(api.CellList), stamp(0, 16), strings.Repeat("x", 257))
	wantRefused(t, full(api.CellLww), stamp(0, -1), strings.Repeat("x", 257))
	wantRefused(t, full(9), stamp(1, 0), strings.Repeat("x", 257))
}

// P7.1: all else of a cell stays, wrong as it may be.
func TestAllElseStays(t *testing.T) {
	c := full(api.CellLww)
	c.Num = api.Pair{Re: math.MinInt, Im: math.MaxInt}
	c.Seen = []int{math.MinInt, -1, 0, math.MaxInt}
	c.Entries = []api.Entry{{Dot: api.Dot{Node: 9, Seq: -9}, Value: "b"}, {Value: "b"}, {Value: "a"}}
	c.Elems = []api.Elem{{Gone: true, Value: "gone"}, {Time: -4}, {Time: -4}}
	wantTaken(t, c, stamp(500, 8), "new")
	wantLeft(t, c, stamp(500, 6), "new")
}

// T2: in whatever row writes of unlike stamps come, the same is left.
func TestSetInAnyRow(t *testing.T) {
	writes := []api.Stamp{stamp(1, 3), stamp(2, 0), stamp(2, 1), stamp(3, 0), stamp(3, 2)}
	want := api.Cell{Set: true, Stamp: stamp(3, 2), Value: "4"}
	inAnyRow(len(writes), func(row []int) {
		var c api.Cell
		for _, i := range row {
			c, _ = Set(c, writes[i], string(rune('0'+i)))
		}
		if !same(c, want) {
			t.Errorf("T2: row %v: %v", row, c)
		}
	})
}

// inAnyRow calls do with each row of the numbers below n.
func inAnyRow(n int, do func([]int)) {
	var grow func(row []int, used int)
	grow = func(row []int, used int) {
		if len(row) == n {
			do(row)
		}
		for i := range n {
			if used>>i&1 == 0 {
				grow(append(row, i), used|1<<i)
			}
		}
	}
	grow(nil, 0)
}

// R4: behind a call, refused or not, the cell is as it was, its spare room too.
func TestArgumentsStay(t *testing.T) {
	for _, s := range []api.Stamp{stamp(501, 7), stamp(500, 7), stamp(499, 7), stamp(0, 0)} {
		c := full(api.CellLww)
		Set(c, s, "new")
		wantUntouched(t, c)
	}
	c := full(api.CellList)
	Set(c, stamp(501, 7), "new")
	c.Kind = api.CellLww
	wantUntouched(t, c)
}

// wantUntouched wants c to be full's, its spare room too.
func wantUntouched(t *testing.T, c api.Cell) {
	t.Helper()
	if !reflect.DeepEqual(c, full(api.CellLww)) {
		t.Errorf("R4: the cell is %v", c)
	}
	if c.Entries[:3][2].Value != "spare" || c.Elems[:3][2].Value != "spare" || c.Seen[:3][2] != 77 {
		t.Errorf("R4: the spare room is %v, %v, %v", c.Entries[:3], c.Elems[:3], c.Seen[:3])
	}
}

// spoil writes into all that c's lists reach.
func spoil(c api.Cell) {
	entries, elems, seen := c.Entries[:cap(c.Entries)], c.Elems[:cap(c.Elems)], c.Seen[:cap(c.Seen)]
	for i := range entries {
		entries[i] = api.Entry{Value: "spoilt"}
	}
	for i := range elems {
		elems[i] = api.Elem{Value: "spoilt"}
	}
	for i := range seen {
		seen[i] = -1
	}
}

// R4: what is done to an answer is seen neither in the cell nor in a second answer,
// whether the write was taken or not.
func TestAnswersShareNoLists(t *testing.T) {
	for _, s := range []api.Stamp{stamp(501, 7), stamp(500, 7), stamp(499, 7)} {
		c := full(api.CellLww)
		first, _ := Set(c, s, "new")
		second, _ := Set(c, s, "new")
		want, _ := Set(full(api.CellLww), s, "new")
		spoil(first)
		wantUntouched(t, c)
		if !same(second, want) {
			t.Errorf("R4: stamp %v: the second answer is %v", s, second)
		}
		spoil(c)
		if !same(second, want) {
			t.Errorf("R4: stamp %v: the cell's memory is the answer's: %v", s, second)
		}
	}
}

// R4 of texts: an answer keeps hold of none that was handed in.
func TestAnswersShareNoTexts(t *testing.T) {
	long := strings.Repeat("much", 1000)
	value := long[4:8]
	got, _ := Set(full(api.CellLww), stamp(501, 7), value)
	if got.Value != value || unsafe.StringData(got.Value) == unsafe.StringData(value) {
		t.Errorf("R4: the value is shared")
	}
	c := full(api.CellLww)
	got, _ = Set(c, stamp(500, 7), value)
	if unsafe.StringData(got.Value) == unsafe.StringData(c.Value) {
		t.Errorf("R4: the cell's value is shared")
	}
	if unsafe.StringData(got.Entries[0].Value) == unsafe.StringData(c.Entries[0].Value) || unsafe.StringData(got.Elems[0].Value) == unsafe.StringData(c.Elems[0].Value) {
		t.Errorf("R4: a list's value is shared")
	}
}

// R5: the same arguments, the same answers, whatever was asked in between.
func TestSecondCallsAnswerAlike(t *testing.T) {
	c := full(api.CellLww)
	for range 3 {
		wantTaken(t, c, stamp(501, 0), "new")
		wantRefused(t, c, stamp(501, 16), "new")
		wantLeft(t, c, stamp(500, 0), "other")
		wantTaken(t, api.Cell{}, stamp(1, 0), "first")
	}
}

// R5: plain functions may be called from several goroutines at one time, over one
// cell.
func TestSeveralGoroutines(t *testing.T) {
	c := full(api.CellLww)
	var all sync.WaitGroup
	for worker := range 8 {
		all.Go(func() {
			for i := range 300 {
				wantTaken(t, c, stamp(501+i, worker), "new")
				wantLeft(t, c, stamp(1+i, worker), "new")
			}
		})
	}
	all.Wait()
}
