package fresh

import (
	"reflect"
	"strings"
	"testing"
	"unsafe"

	"tattle/api"
)

// full is a cell in which everything stands, with spare room behind each list.
func full() api.Cell {
	entries := []api.Entry{{Dot: api.Dot{Node: 1, Seq: 2}, Value: "one"}, {Dot: api.Dot{Node: 3, Seq: 4}, Value: ""}, {Value: "spare"}}
	elems := []api.Elem{{Dot: api.Dot{Node: 5, Seq: 6}, Time: 7, Value: "two"}, {Time: 8, Gone: true}, {Value: "spare"}}
	seen := []int{9, 10, 77}
	return api.Cell{
		Kind:    3,
		Set:     true,
		Stamp:   api.Stamp{Time: 11, Node: 12},
		Value:   "value",
		Num:     api.Pair{Re: 13, Im: 14},
		Entries: entries[:2],
		Elems:   elems[:2],
		Seen:    seen[:2],
	}
}

func TestCellIsTheSame(t *testing.T) {
	c := full()
	if got := Cell(c); !reflect.DeepEqual(got, full()) {
		t.Errorf("Cell(%v) = %v", c, got)
	}
	if !reflect.DeepEqual(c, full()) {
		t.Errorf("R4: the argument is %v", c)
	}
	if got := Cell(api.Cell{}); !reflect.DeepEqual(got, api.Cell{}) {
		t.Errorf("Cell of none = %v", got)
	}
}

// What is done to a copy, within its length and its room, is not seen in the cell.
func TestCellSharesNoLists(t *testing.T) {
	c := full()
	got := Cell(c)
	entries, elems, seen := got.Entries[:cap(got.Entries)], got.Elems[:cap(got.Elems)], got.Seen[:cap(got.Seen)]
	for i := range entries {
		entries[i] = api.Entry{Value: "spoilt"}
	}
	for i := range elems {
		elems[i] = api.Elem{Value: "spoilt"}
	}
	for i := range seen {
		seen[i] = -1
	}
	if !reflect.DeepEqual(c, full()) {
		t.Errorf("R4: the cell is %v", c)
	}
	if c.Entries[:3][2].Value != "spare" || c.Elems[:3][2].Value != "spare" || c.Seen[:3][2] != 77 {
		t.Errorf("R4: the spare room is %v, %v, %v", c.Entries[:3], c.Elems[:3], c.Seen[:3])
	}
}

func TestCellSharesNoTexts(t *testing.T) {
	c := full()
	got := Cell(c)
	pairs := [][2]string{{c.Value, got.Value}, {c.Entries[0].Value, got.Entries[0].Value}, {c.Elems[0].Value, got.Elems[0].Value}}
	for _, p := range pairs {
		if unsafe.StringData(p[0]) == unsafe.StringData(p[1]) {
			t.Errorf("R4: %q is shared", p[0])
		}
	}
}

// A list of no length keeps no hold of the room behind it.
func TestEmptyListsShareNothing(t *testing.T) {
	c := api.Cell{Entries: make([]api.Entry, 0, 4), Elems: make([]api.Elem, 0, 4), Seen: make([]int, 0, 4)}
	got := Cell(c)
	if got.Entries != nil || got.Elems != nil || got.Seen != nil {
		t.Errorf("R4: %v", got)
	}
}

func TestListsKeepTheirRow(t *testing.T) {
	for length := range 70 {
		entries, elems, seen := make([]api.Entry, length), make([]api.Elem, length), make([]int, length)
		for i := range length {
			entries[i] = api.Entry{Dot: api.Dot{Node: i, Seq: -i}, Value: strings.Repeat("e", i)}
			elems[i] = api.Elem{Dot: api.Dot{Node: -i, Seq: i}, Time: i, Value: strings.Repeat("l", i), Gone: i%2 == 0}
			seen[i] = i * i
		}
		c := Cell(api.Cell{Entries: entries, Elems: elems, Seen: seen})
		if len(c.Entries) != length || len(c.Elems) != length || len(c.Seen) != length {
			t.Fatalf("lengths of %d: %d, %d, %d", length, len(c.Entries), len(c.Elems), len(c.Seen))
		}
		for i := range length {
			if c.Entries[i] != entries[i] || c.Elems[i] != elems[i] || c.Seen[i] != seen[i] {
				t.Errorf("place %d of %d: %v, %v, %d", i, length, c.Entries[i], c.Elems[i], c.Seen[i])
			}
		}
	}
}
