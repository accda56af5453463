package order

import (
	"math"
	"slices"
	"testing"

	"tattle/api"
)

// rising are numbers, each greater than the one ahead of it.
var rising = []int{math.MinInt, math.MinInt + 1, -1 << 32, -1, 0, 1, 2, 255, 256, 1<<32 - 1, 1 << 32, 1<<32 + 1, math.MaxInt - 1, math.MaxInt}

// Each dot against each, in the row in which they stand.
func TestDotsByNodeThenBySeq(t *testing.T) {
	var row []api.Dot
	for _, node := range rising {
		for _, seq := range rising {
			row = append(row, api.Dot{Node: node, Seq: seq})
		}
	}
	for i, a := range row {
		for j, b := range row {
			got := Dots(a, b)
			if (got < 0) != (i < j) || (got > 0) != (i > j) {
				t.Errorf("Dots(%v, %v) = %d", a, b, got)
			}
		}
	}
}

func TestDotsSorts(t *testing.T) {
	row := []api.Dot{{Node: 1, Seq: 1}, {Node: 0, Seq: 9}, {Node: 1, Seq: 0}, {Node: 0, Seq: 10}}
	want := []api.Dot{{Node: 0, Seq: 9}, {Node: 0, Seq: 10}, {Node: 1, Seq: 0}, {Node: 1, Seq: 1}}
	slices.SortFunc(row, Dots)
	if !slices.Equal(row, want) {
		t.Errorf("%v, want %v", row, want)
	}
}
