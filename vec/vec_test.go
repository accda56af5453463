package vec

import (
	"math"
	"slices"
	"sync"
	"testing"

	"tattle/api"
)

// far are numbers that no vector has; the last ones look right once their upper
// bits are gone.
var far = []int{math.MinInt, math.MinInt + 1, math.MinInt32, -2, -1, 1048576, 1048577, math.MaxInt32, math.MaxInt - 1, math.MaxInt, 1 << 32, 1<<32 + 5}

// all is a vector of n times x.
func all(n, x int) []int {
	return slices.Repeat([]int{x}, n)
}

func wantMay(t *testing.T, v []int, nodes int, want bool) {
	t.Helper()
	if got := May(v, nodes); got != want {
		t.Errorf("P4.1: May(%v, %d) = %v, want %v", v, nodes, got, want)
	}
}

func wantHas(t *testing.T, v []int, node, seq int, want bool) {
	t.Helper()
	if got := Has(v, api.Dot{Node: node, Seq: seq}); got != want {
		t.Errorf("P4.1: Has(%v, {%d, %d}) = %v, want %v", v, node, seq, got, want)
	}
}

func wantUnder(t *testing.T, a, b []int, want bool) {
	t.Helper()
	if got := Under(a, b); got != want {
		t.Errorf("P4.2: Under(%v, %v) = %v, want %v", a, b, got, want)
	}
}

// wantBoth wants Max and Min of a and b, and of b and a.
func wantBoth(t *testing.T, a, b, most, least []int) {
	t.Helper()
	for range 2 {
		if got, err := Max(a, b); !slices.Equal(got, most) || err != api.OK {
			t.Errorf("P4.2: Max(%v, %v) = %v, %d, want %v", a, b, got, err, most)
		}
		if got, err := Min(a, b); !slices.Equal(got, least) || err != api.OK {
			t.Errorf("P4.2: Min(%v, %v) = %v, %d, want %v", a, b, got, err, least)
		}
		a, b = b, a
	}
}

// wantRefused wants a and b, and b and a, to be refused by all of P4.2, with
// nothing beside the error (R2).
func wantRefused(t *testing.T, a, b []int) {
	t.Helper()
	for range 2 {
		if got, err := Max(a, b); len(got) != 0 || err != api.ErrVecForm {
			t.Errorf("P4.2: Max(%v, %v) = %v, %d, want ErrVecForm", a, b, got, err)
		}
		if got, err := Min(a, b); len(got) != 0 || err != api.ErrVecForm {
			t.Errorf("P4.2: Min(%v, %v) = %v, %d, want ErrVecForm", a, b, got, err)
		}
		wantUnder(t, a, b, false)
		a, b = b, a
	}
}

func TestNumbersAreTheDocuments(t *testing.T) {
	if api.MaxNodes != 16 || api.MaxSeq != 1048575 || api.ErrVecForm != 400 {
		t.Fatalf("MaxNodes %d, MaxSeq %d, ErrVecForm %d", api.MaxNodes, api.MaxSeq, api.ErrVecForm)
	}
}

// P4.1, May.

func TestMayOfOrdinaryVectors(t *testing.T) {
	wantMay(t, []int{3, 0, 7}, 3, true)
	wantMay(t, []int{12}, 1, true)
	wantMay(t, []int{1, 2, 3, 4, 5}, 5, true)
	wantMay(t, []int{0, 65536, 1048574}, 3, true)
}

func TestMayOfEachLengthAndEachNumberOfNodes(t *testing.T) {
	for length := range 20 {
		for nodes := -2; nodes <= 19; nodes++ {
			want := length == nodes && nodes >= 1 && nodes <= 16
			wantMay(t, all(length, 0), nodes, want)
			wantMay(t, all(length, 1048575), nodes, want)
		}
	}
}

func TestMayOfNoNumbers(t *testing.T) {
	for _, nodes := range []int{math.MinInt, -1, 0, 1, 16, math.MaxInt} {
		wantMay(t, nil, nodes, false)
		wantMay(t, []int{}, nodes, false)
		wantMay(t, make([]int, 0, 16), nodes, false)
	}
}

// One wrong number at each place of each length, beside others that are right.
func TestMayOfAWrongNumberAnywhere(t *testing.T) {
	for length := 1; length <= 16; length++ {
		for place := range length {
			for _, x := range far {
				v := all(length, 4)
				v[place] = x
				wantMay(t, v, length, false)
			}
			for _, x := range []int{0, 1, 1048574, 1048575} {
				v := all(length, 4)
				v[place] = x
				wantMay(t, v, length, true)
			}
		}
	}
}

func TestMayOfWrongNumbersOfNodes(t *testing.T) {
	for _, nodes := range []int{math.MinInt, math.MinInt + 1, -16, -1, 0, 17, 1 << 32, 1<<32 + 3, math.MaxInt - 1, math.MaxInt} {
		for _, length := range []int{1, 3, 16, 17} {
			wantMay(t, all(length, 1), nodes, length == nodes && nodes <= 16)
		}
	}
}

// A vector is what lies within its length: its spare room is none of it.
func TestMayLeavesTheSpareRoomOut(t *testing.T) {
	long := []int{1, 2, -1, 1048576}
	wantMay(t, long[:2], 2, true)
	wantMay(t, long[:2], 3, false)
	wantMay(t, long[:2], 4, false)
}

// P4.1, Has.

func TestHasOfOrdinaryDots(t *testing.T) {
	v := []int{3, 0, 7}
	wantHas(t, v, 0, 2, true)
	wantHas(t, v, 2, 4, true)
	wantHas(t, v, 0, 5, false)
	wantHas(t, v, 1, 2, false)
	wantHas(t, v, 2, 70, false)
}

// Each node, the last one and those beside the length, with Seq about the edges.
func TestHasAtTheEdges(t *testing.T) {
	for _, there := range []int{0, 1, 2, 9, 1048574, 1048575} {
		for length := 1; length <= 16; length++ {
			v := all(length, there)
			for node := -2; node <= length+2; node++ {
				inside := node >= 0 && node < length
				wantHas(t, v, node, -1, false)
				wantHas(t, v, node, 0, false)
				wantHas(t, v, node, 1, inside && there >= 1)
				wantHas(t, v, node, there, inside && there >= 1)
				wantHas(t, v, node, there+1, false)
			}
		}
	}
}

// The number is that of the dot's node, not of another.
func TestHasAsksTheNodesNumber(t *testing.T) {
	v := make([]int, 16)
	for i := range v {
		v[i] = (i*7 + 3) % 16
	}
	for node := range 16 {
		for seq := range 18 {
			wantHas(t, v, node, seq, seq >= 1 && seq <= v[node])
		}
	}
}

func TestHasOfNoNumbers(t *testing.T) {
	for _, node := range []int{math.MinInt, -1, 0, 1, 15, math.MaxInt} {
		for _, seq := range []int{math.MinInt, -1, 0, 1, math.MaxInt} {
			wantHas(t, nil, node, seq, false)
			wantHas(t, []int{}, node, seq, false)
			wantHas(t, all(16, 5)[:0], node, seq, false)
		}
	}
}

func TestHasOfTheSmallestAndTheGreatest(t *testing.T) {
	v := all(16, 1048575)
	for _, x := range far {
		wantHas(t, v, x, 1, false)
		wantHas(t, v, 3, x, false)
		wantHas(t, v, x, x, false)
	}
	wantHas(t, v, 1<<32+3, 1, false)
	wantHas(t, v, 3, 1<<32+1, false)
	wantHas(t, v, 3, math.MinInt+1, false)
}

// Has asks of the dot alone: a vector that may not be answers as its numbers do.
func TestHasOfVectorsThatMayNotBe(t *testing.T) {
	wantHas(t, all(17, 2), 16, 2, true)
	wantHas(t, all(17, 2), 16, 3, false)
	wantHas(t, all(17, 2), 17, 1, false)
	wantHas(t, []int{-1, 4}, 1, 4, true)
	wantHas(t, []int{-1, 4}, 0, -1, false)
	wantHas(t, []int{-1, 4}, 0, 1, false)
	wantHas(t, []int{math.MinInt, math.MaxInt}, 0, math.MinInt, false)
	wantHas(t, []int{math.MinInt, math.MaxInt}, 1, math.MaxInt, true)
	wantHas(t, []int{2000000}, 0, 1048576, true)
}

func TestHasLeavesTheSpareRoomOut(t *testing.T) {
	long := []int{1, 2, 3}
	wantHas(t, long[:2], 1, 2, true)
	wantHas(t, long[:2], 2, 1, false)
}

// P4.2.

func TestOrdinaryVectors(t *testing.T) {
	wantBoth(t, []int{3, 0, 7}, []int{1, 4, 7}, []int{3, 4, 7}, []int{1, 0, 7})
	wantBoth(t, []int{12}, []int{9}, []int{12}, []int{9})
	wantBoth(t, []int{0, 0}, []int{5, 6}, []int{5, 6}, []int{0, 0})
	wantBoth(t, []int{1, 2, 3, 4}, []int{4, 3, 2, 1}, []int{4, 3, 3, 4}, []int{1, 2, 2, 1})
}

func TestUnderOfOrdinaryVectors(t *testing.T) {
	wantUnder(t, []int{1, 0, 7}, []int{3, 4, 7}, true)
	wantUnder(t, []int{3, 4, 7}, []int{1, 0, 7}, false)
	wantUnder(t, []int{3, 0, 7}, []int{1, 4, 7}, false)
	wantUnder(t, []int{1, 4, 7}, []int{3, 0, 7}, false)
	wantUnder(t, []int{9}, []int{12}, true)
	wantUnder(t, []int{12}, []int{9}, false)
}

func TestTheSameVector(t *testing.T) {
	for n := 1; n <= 16; n++ {
		for _, x := range []int{0, 1, 77, 1048574, 1048575} {
			v := all(n, x)
			wantBoth(t, v, slices.Clone(v), v, v)
			wantBoth(t, v, v, v, v)
			wantUnder(t, v, slices.Clone(v), true)
			wantUnder(t, v, v, true)
		}
	}
}

// One number that differs, at each place of each length, from edge to edge.
func TestOneNumberThatDiffers(t *testing.T) {
	for n := 1; n <= 16; n++ {
		for place := range n {
			for _, c := range [][2]int{{0, 1}, {0, 1048575}, {1048574, 1048575}, {6, 7}} {
				less, more := all(n, c[0]), all(n, c[0])
				more[place] = c[1]
				wantBoth(t, less, more, more, less)
				wantUnder(t, less, more, true)
				wantUnder(t, more, less, false)
			}
		}
	}
}

// Every pair of vectors of three nodes with numbers below 4, against what their
// numbers say one by one.
func TestAllSmallVectors(t *testing.T) {
	var rows [][]int
	for i := range 64 {
		rows = append(rows, []int{i / 16, i / 4 % 4, i % 4})
	}
	for _, a := range rows {
		for _, b := range rows {
			most, least := slices.Clone(a), slices.Clone(b)
			for i := range 3 {
				if most[i] < least[i] {
					most[i], least[i] = least[i], most[i]
				}
			}
			wantBoth(t, a, b, most, least)
			wantUnder(t, a, b, slices.Equal(a, least))
		}
	}
}

func TestNoNumbersAreRefused(t *testing.T) {
	wantRefused(t, nil, nil)
	wantRefused(t, []int{}, nil)
	wantRefused(t, []int{}, []int{})
	wantRefused(t, nil, []int{1})
	wantRefused(t, []int{}, all(16, 0))
}

func TestTwoLengthsAreRefused(t *testing.T) {
	for a := range 19 {
		for b := range 19 {
			if a != b || a == 0 || a > 16 {
				wantRefused(t, all(a, 2), all(b, 2))
			}
		}
	}
}

func TestMoreThanMaxNodesAreRefused(t *testing.T) {
	for _, n := range []int{17, 18, 32, 272, 65552} {
		wantRefused(t, all(n, 1), all(n, 1))
		wantRefused(t, all(n, 1), all(16, 1))
		wantRefused(t, all(n, 1), all(1, 1))
	}
}

// A wrong number at each place of the one, of the other, of both.
func TestAWrongNumberIsRefused(t *testing.T) {
	for _, n := range []int{1, 2, 3, 15, 16} {
		for place := range n {
			for _, x := range far {
				wrong := all(n, 4)
				wrong[place] = x
				wantRefused(t, wrong, all(n, 4))
				wantRefused(t, wrong, all(n, 0))
				wantRefused(t, wrong, all(n, 1048575))
				wantRefused(t, wrong, slices.Clone(wrong))
			}
		}
	}
}

// A wrong number behind one that would settle Under is refused all the same, and
// the answer is false either way; ahead of it too.
func TestUnderWantsBothWhole(t *testing.T) {
	wantUnder(t, []int{1, -1}, []int{2, 0}, false)
	wantUnder(t, []int{1, 1}, []int{2, 1048576}, false)
	wantUnder(t, []int{-1, 1}, []int{-1, 1}, false)
	wantUnder(t, []int{1048576}, []int{1048576}, false)
	wantUnder(t, []int{1}, []int{1, 2}, false)
	wantUnder(t, []int{1, 2}, []int{1}, false)
	wantUnder(t, nil, nil, false)
}

// R4.

// roomy is v with spare room behind it that is filled with marks.
func roomy(v []int) []int {
	long := append(slices.Clone(v), 901, 902, 903, 904)
	return long[:len(v)]
}

// wantKept wants v and its spare room as roomy made them.
func wantKept(t *testing.T, v, want []int) {
	t.Helper()
	whole := append(slices.Clone(want), 901, 902, 903, 904)
	if !slices.Equal(v[:len(whole)], whole) {
		t.Errorf("R4: an argument and its room: %v, want %v", v[:len(whole)], whole)
	}
}

func TestArgumentsStayAsTheyAre(t *testing.T) {
	for _, c := range [][2][]int{
		{{3, 0, 7}, {1, 4, 7}},
		{{0}, {1048575}},
		{all(16, 5), all(16, 6)},
		{{1, 2}, {1}},
		{{-1, 2}, {1, 1048576}},
		{{}, {}},
		{all(17, 1), all(17, 2)},
	} {
		a, b := roomy(c[0]), roomy(c[1])
		May(a, len(a))
		Has(a, api.Dot{Node: 0, Seq: 1})
		Max(a, b)
		Min(a, b)
		Under(a, b)
		wantKept(t, a, c[0])
		wantKept(t, b, c[1])
	}
}

// wantNew wants of's answer to share nothing with its arguments nor with the
// answer of a second call, the answer's spare room among it.
func wantNew(t *testing.T, of func(a, b []int) ([]int, api.Errno), first, second, want []int) {
	t.Helper()
	a, b := roomy(first), roomy(second)
	x, _ := of(a, b)
	y, _ := of(a, b)
	for i := range x[:cap(x)] {
		x[:cap(x)][i] = -7
	}
	wantKept(t, a, first)
	wantKept(t, b, second)
	if !slices.Equal(y, want) {
		t.Errorf("R4: the second answer: %v, want %v", y, want)
	}
	for i := range a {
		a[i], b[i] = -8, -9
	}
	if !slices.Equal(y, want) {
		t.Errorf("R4: an answer behind its arguments' change: %v, want %v", y, want)
	}
}

// Where one argument is the answer, and where both are, it is new memory too.
func TestAnswersAreNewMemory(t *testing.T) {
	for n := 1; n <= 16; n++ {
		low, high := all(n, 2), all(n, 3)
		wantNew(t, Max, low, high, high)
		wantNew(t, Max, high, low, high)
		wantNew(t, Max, low, low, low)
		wantNew(t, Min, low, high, low)
		wantNew(t, Min, high, low, low)
		wantNew(t, Min, high, high, high)
	}
}

func TestOneListAsBothArguments(t *testing.T) {
	v := []int{4, 5}
	for _, of := range []func(a, b []int) ([]int, api.Errno){Max, Min} {
		x, err := of(v, v)
		if err != api.OK || !slices.Equal(x, []int{4, 5}) {
			t.Fatalf("P4.2: %v, %d", x, err)
		}
		x[0] = 9
		if v[0] != 4 {
			t.Errorf("R4: the answer is the argument: %v", v)
		}
	}
}

// R5: plain functions, from several goroutines at one time, on the same vectors.
func TestFromSeveralGoroutines(t *testing.T) {
	a, b := []int{3, 0, 7, 1}, []int{1, 4, 7, 2}
	most, least := []int{3, 4, 7, 2}, []int{1, 0, 7, 1}
	var done sync.WaitGroup
	for range 8 {
		done.Add(1)
		go func() {
			defer done.Done()
			for range 1000 {
				x, _ := Max(a, b)
				y, _ := Min(a, b)
				right := slices.Equal(x, most) && slices.Equal(y, least) && Under(y, x) && !Under(a, b)
				if !right || !May(a, 4) || !Has(a, api.Dot{Node: 2, Seq: 7}) {
					t.Errorf("R5: %v, %v", x, y)
					return
				}
			}
		}()
	}
	done.Wait()
}
