package dot

import (
	"math"
	"sync"
	"testing"

	"tattle/api"
)

func wantMay(t *testing.T, node, seq, nodes int, want bool) {
	t.Helper()
	if got := May(api.Dot{Node: node, Seq: seq}, nodes); got != want {
		t.Errorf("P3.1: May({%d, %d}, %d) = %v, want %v", node, seq, nodes, got, want)
	}
}

func wantLess(t *testing.T, a, b api.Stamp, want bool) {
	t.Helper()
	if got := Less(a, b); got != want {
		t.Errorf("P3.1: Less(%v, %v) = %v, want %v", a, b, got, want)
	}
}

// P3.1, May: the limits are those that DOC.md tells.

func TestLimitsAreTheDocuments(t *testing.T) {
	if api.MaxNodes != 16 || api.MaxSeq != 1048575 {
		t.Fatalf("MaxNodes %d, MaxSeq %d", api.MaxNodes, api.MaxSeq)
	}
}

func TestMayOfOrdinaryDots(t *testing.T) {
	wantMay(t, 0, 5, 3, true)
	wantMay(t, 1, 1, 3, true)
	wantMay(t, 2, 700, 3, true)
	wantMay(t, 7, 65536, 8, true)
	wantMay(t, 9, 12, 16, true)
}

func TestMayOfEachNodeOfEachCluster(t *testing.T) {
	for nodes := 1; nodes <= 16; nodes++ {
		for node := -3; node <= 20; node++ {
			want := node >= 0 && node < nodes
			wantMay(t, node, 1, nodes, want)
			wantMay(t, node, 1048575, nodes, want)
			wantMay(t, node, 0, nodes, false)
			wantMay(t, node, 1048576, nodes, false)
		}
	}
}

func TestMayAtTheEdges(t *testing.T) {
	for _, c := range []struct {
		node, seq, nodes int
		want             bool
	}{
		{0, 1, 1, true},
		{0, 1048575, 1, true},
		{0, 1, 16, true},
		{15, 1, 16, true},
		{15, 1048575, 16, true},
		{14, 1048574, 15, true},
		{1, 1, 1, false},
		{-1, 1, 1, false},
		{-1, 1, 16, false},
		{16, 1, 16, false},
		{17, 1, 16, false},
		{15, 0, 16, false},
		{15, -1, 16, false},
		{15, 1048576, 16, false},
		{15, 1048577, 16, false},
	} {
		wantMay(t, c.node, c.seq, c.nodes, c.want)
	}
}

func TestMayOfWrongNumbersOfNodes(t *testing.T) {
	for _, nodes := range []int{0, -1, -2, -16, 17, 18, 32, 256, 1 << 32, math.MinInt, math.MinInt + 1, math.MaxInt - 1, math.MaxInt} {
		for _, node := range []int{math.MinInt, -17, -1, 0, 1, 15, 16, nodes - 1, nodes} {
			wantMay(t, node, 1, nodes, false)
			wantMay(t, node, 1048575, nodes, false)
		}
	}
}

func TestMayOfTheSmallestAndTheGreatest(t *testing.T) {
	far := []int{math.MinInt, math.MinInt + 1, math.MinInt32, math.MaxUint32, 1 << 32, math.MaxInt - 1, math.MaxInt}
	for _, x := range far {
		wantMay(t, x, 1, 16, false)
		wantMay(t, 0, x, 16, false)
		wantMay(t, 0, 1, x, false)
		wantMay(t, x, x, 16, false)
		wantMay(t, x, x, x, false)
	}
	// Numbers that look right once their upper bits are gone.
	wantMay(t, 1<<32+3, 1, 16, false)
	wantMay(t, 3, 1<<32+1, 16, false)
	wantMay(t, 3, 1, 1<<32+16, false)
}

func TestTheZeroDotNamesNothing(t *testing.T) {
	for nodes := -2; nodes <= 18; nodes++ {
		wantMay(t, 0, 0, nodes, false)
	}
}

// P3.1, Less.

func TestLessOfOrdinaryStamps(t *testing.T) {
	for _, c := range []struct {
		a, b api.Stamp
		want bool
	}{
		{api.Stamp{Time: 3, Node: 1}, api.Stamp{Time: 4, Node: 0}, true},
		{api.Stamp{Time: 4, Node: 0}, api.Stamp{Time: 3, Node: 1}, false},
		{api.Stamp{Time: 3, Node: 15}, api.Stamp{Time: 4, Node: 0}, true},
		{api.Stamp{Time: 9, Node: 2}, api.Stamp{Time: 10, Node: 2}, true},
		{api.Stamp{Time: 16777215, Node: 0}, api.Stamp{Time: 16777214, Node: 15}, false},
	} {
		wantLess(t, c.a, c.b, c.want)
	}
}

func TestLessOfOneTimeGoesByNode(t *testing.T) {
	for _, time := range []int{math.MinInt, -1, 0, 1, 16777215, math.MaxInt} {
		for a := -1; a <= 16; a++ {
			for b := -1; b <= 16; b++ {
				wantLess(t, api.Stamp{Time: time, Node: a}, api.Stamp{Time: time, Node: b}, a < b)
			}
		}
	}
}

func TestLessOfTheSameStamp(t *testing.T) {
	for _, s := range []api.Stamp{{}, {Time: 1, Node: 1}, {Time: 16777215, Node: 15}, {Time: -4, Node: -9}, {Time: math.MinInt, Node: math.MaxInt}, {Time: math.MaxInt, Node: math.MinInt}} {
		wantLess(t, s, s, false)
	}
}

// Less is one row of all stamps: those of a sorted square stand as their places do,
// the smallest and the greatest numbers among them, where a difference would wrap.
func TestLessIsOneRow(t *testing.T) {
	steps := []int{math.MinInt, math.MinInt + 1, -2, -1, 0, 1, 2, 16777215, 1 << 32, math.MaxInt - 1, math.MaxInt}
	var row []api.Stamp
	for _, time := range steps {
		for _, node := range steps {
			row = append(row, api.Stamp{Time: time, Node: node})
		}
	}
	for i, a := range row {
		for k, b := range row {
			wantLess(t, a, b, i < k)
		}
	}
}

// R5: plain functions, from several goroutines at one time.
func TestFromSeveralGoroutines(t *testing.T) {
	var all sync.WaitGroup
	for worker := range 8 {
		all.Add(1)
		go func() {
			defer all.Done()
			for i := range 1000 {
				if May(api.Dot{Node: worker, Seq: i}, 8) != (i > 0) {
					t.Errorf("R5: May of %d, %d", worker, i)
				}
				if !Less(api.Stamp{Time: i, Node: worker}, api.Stamp{Time: i, Node: worker + 1}) {
					t.Errorf("R5: Less of %d, %d", i, worker)
				}
			}
		}()
	}
	all.Wait()
}
