package matrix

import (
	"math"
	"slices"
	"sync"
	"testing"

	"tattle/api"
)

// far are numbers that no vector has; the last ones look right once their upper
// bits are gone.
var far = []int{math.MinInt, math.MinInt + 1, math.MinInt32, -2, -1, 1048576, 1048577, math.MaxInt32, math.MaxInt - 1, math.MaxInt, 1 << 32, 1<<32 + 5}

// all is a vector of n times x.
func all(n, x int) []int {
	return slices.Repeat([]int{x}, n)
}

func made(t *testing.T, nodes int) *Matrix {
	t.Helper()
	m, err := New(nodes)
	if m == nil || err != api.OK {
		t.Fatalf("P5.1: New(%d): %d", nodes, err)
	}
	return m
}

// learn wants each of the vectors to be learned of the node.
func learn(t *testing.T, m *Matrix, node int, vectors ...[]int) {
	t.Helper()
	for _, v := range vectors {
		if err := m.Learn(node, v); err != api.OK {
			t.Fatalf("P5.1: Learn(%d, %v) = %d", node, v, err)
		}
	}
}

// wantRows wants m to hold those rows and no more, and Least to be least.
func wantRows(t *testing.T, m *Matrix, least []int, rows ...[]int) {
	t.Helper()
	for i, want := range rows {
		if got, err := m.Row(i); !slices.Equal(got, want) || err != api.OK {
			t.Errorf("P5.1: Row(%d) = %v, %d, want %v", i, got, err, want)
		}
	}
	wantNoRow(t, m, len(rows))
	if got := m.Least(); !slices.Equal(got, least) {
		t.Errorf("P5.1: Least() = %v, want %v", got, least)
	}
}

func wantNoRow(t *testing.T, m *Matrix, node int) {
	t.Helper()
	if row, err := m.Row(node); len(row) != 0 || err != api.ErrMatrixForm {
		t.Errorf("P5.1: Row(%d) = %v, %d, want ErrMatrixForm", node, row, err)
	}
}

func wantRefused(t *testing.T, m *Matrix, node int, v []int) {
	t.Helper()
	if err := m.Learn(node, v); err != api.ErrMatrixForm {
		t.Errorf("P5.1: Learn(%d, %v) = %d, want ErrMatrixForm", node, v, err)
	}
}

func TestNumbersAreTheDocuments(t *testing.T) {
	if api.MaxNodes != 16 || api.MaxSeq != 1048575 || api.ErrMatrixForm != 500 || api.ErrNil != 1 {
		t.Fatalf("MaxNodes %d, MaxSeq %d, ErrMatrixForm %d, ErrNil %d", api.MaxNodes, api.MaxSeq, api.ErrMatrixForm, api.ErrNil)
	}
}

// P5.1, New.

func TestNewHasRowsOfZeros(t *testing.T) {
	for nodes := 1; nodes <= 16; nodes++ {
		zeros := make([]int, nodes)
		wantRows(t, made(t, nodes), zeros, slices.Repeat([][]int{zeros}, nodes)...)
	}
}

func TestNewRefusesNumbersOfNodes(t *testing.T) {
	for _, nodes := range []int{math.MinInt, math.MinInt + 1, math.MinInt + 3, -17, -16, -1, 0, 17, 18, 272, 65537, 1 << 32, 1<<32 + 3, math.MaxInt - 1, math.MaxInt} {
		if m, err := New(nodes); m != nil || err != api.ErrMatrixForm {
			t.Errorf("P5.1: New(%d) = %v, %d, want nil, ErrMatrixForm", nodes, m, err)
		}
	}
}

func TestMatricesStandApart(t *testing.T) {
	a, b := made(t, 2), made(t, 2)
	learn(t, a, 0, []int{4, 5})
	learn(t, b, 1, []int{6, 7})
	wantRows(t, a, []int{0, 0}, []int{4, 5}, []int{0, 0})
	wantRows(t, b, []int{0, 0}, []int{0, 0}, []int{6, 7})
}

// P5.1, Learn, Row and Least.

func TestOrdinaryVectors(t *testing.T) {
	m := made(t, 3)
	learn(t, m, 0, []int{3, 0, 7})
	wantRows(t, m, []int{0, 0, 0}, []int{3, 0, 7}, []int{0, 0, 0}, []int{0, 0, 0})
	learn(t, m, 1, []int{1, 4, 7})
	wantRows(t, m, []int{0, 0, 0}, []int{3, 0, 7}, []int{1, 4, 7}, []int{0, 0, 0})
	learn(t, m, 2, []int{2, 2, 9})
	wantRows(t, m, []int{1, 0, 7}, []int{3, 0, 7}, []int{1, 4, 7}, []int{2, 2, 9})
	learn(t, m, 0, []int{4, 3, 8})
	wantRows(t, m, []int{1, 2, 7}, []int{4, 3, 8}, []int{1, 4, 7}, []int{2, 2, 9})
}

func TestTheRowIsTheGreaterOfItAndTheVector(t *testing.T) {
	m := made(t, 4)
	learn(t, m, 2, []int{5, 1, 8, 0})
	learn(t, m, 2, []int{2, 6, 8, 1})
	wantRows(t, m, all(4, 0), all(4, 0), all(4, 0), []int{5, 6, 8, 1}, all(4, 0))
	learn(t, m, 2, []int{4, 5, 7, 0})
	wantRows(t, m, all(4, 0), all(4, 0), all(4, 0), []int{5, 6, 8, 1}, all(4, 0))
	learn(t, m, 2, []int{0, 7, 0, 9})
	wantRows(t, m, all(4, 0), all(4, 0), all(4, 0), []int{5, 7, 8, 9}, all(4, 0))
}

func TestAVectorLearnedTwice(t *testing.T) {
	m := made(t, 2)
	learn(t, m, 1, []int{3, 8}, []int{3, 8})
	wantRows(t, m, []int{0, 0}, []int{0, 0}, []int{3, 8})
	learn(t, m, 0, []int{5, 1}, []int{5, 1}, []int{5, 1})
	wantRows(t, m, []int{3, 1}, []int{5, 1}, []int{3, 8})
}

func TestZerosTurnNothing(t *testing.T) {
	m := made(t, 2)
	learn(t, m, 0, []int{4, 0}, []int{0, 0})
	wantRows(t, m, []int{0, 0}, []int{4, 0}, []int{0, 0})
}

func TestOneNode(t *testing.T) {
	m := made(t, 1)
	wantRows(t, m, []int{0}, []int{0})
	learn(t, m, 0, []int{7})
	wantRows(t, m, []int{7}, []int{7})
	learn(t, m, 0, []int{6})
	wantRows(t, m, []int{7}, []int{7})
	learn(t, m, 0, []int{1048575})
	wantRows(t, m, []int{1048575}, []int{1048575})
	for _, node := range []int{-1, 1, 2} {
		wantRefused(t, m, node, []int{9})
	}
}

// Each node of each number of nodes learns by itself; Least rises with the last.
func TestEachNodeOfEachNumberOfNodes(t *testing.T) {
	for nodes := 1; nodes <= 16; nodes++ {
		m, rows := made(t, nodes), make([][]int, nodes)
		for i := range nodes {
			rows[i] = make([]int, nodes)
		}
		for node := range nodes {
			rows[node] = all(nodes, 1048575-node)
			rows[node][node] = node + 1
			learn(t, m, node, rows[node])
			least := make([]int, nodes)
			if node == nodes-1 {
				for i := range nodes {
					least[i] = i + 1
				}
			}
			wantRows(t, m, least, rows...)
		}
	}
}

// The lowest number of a column may stand in any row, the first and the last one
// among them.
func TestLeastLooksAtEachRow(t *testing.T) {
	for _, nodes := range []int{1, 2, 3, 15, 16} {
		for low := range nodes {
			for column := range nodes {
				m, least := made(t, nodes), all(nodes, 9)
				least[column] = 4
				for node := range nodes {
					v := all(nodes, 9)
					if node == low {
						v[column] = 4
					}
					learn(t, m, node, v)
				}
				if got := m.Least(); !slices.Equal(got, least) {
					t.Errorf("P5.1: Least() = %v, want %v", got, least)
				}
			}
		}
	}
}

func TestNumbersAtTheEdges(t *testing.T) {
	for _, nodes := range []int{1, 2, 16} {
		for place := range nodes {
			for _, x := range []int{0, 1, 1048574, 1048575} {
				m := made(t, nodes)
				v := make([]int, nodes)
				v[place] = x
				for node := range nodes {
					learn(t, m, node, v)
				}
				wantRows(t, m, v, slices.Repeat([][]int{v}, nodes)...)
			}
		}
	}
}

// Vectors in every row and every number come to the same matrix (T2).
func TestTheRowOfVectorsIsNotSeen(t *testing.T) {
	vectors := [][]int{{1, 5}, {4, 2}, {3, 3}}
	for _, order := range [][]int{{0, 1, 2}, {0, 2, 1}, {1, 0, 2}, {1, 2, 0}, {2, 0, 1}, {2, 1, 0}} {
		m := made(t, 2)
		for _, i := range order {
			learn(t, m, 0, vectors[i])
			learn(t, m, 1, vectors[i])
			learn(t, m, 0, vectors[i])
		}
		wantRows(t, m, []int{4, 5}, []int{4, 5}, []int{4, 5})
	}
}

// Every pair of vectors of two nodes with numbers below 4, learned of one node and
// of two.
func TestAllSmallVectors(t *testing.T) {
	for i := range 256 {
		a, b := []int{i / 64, i / 16 % 4}, []int{i / 4 % 4, i % 4}
		most := []int{max(a[0], b[0]), max(a[1], b[1])}
		least := []int{min(a[0], b[0]), min(a[1], b[1])}
		m := made(t, 2)
		learn(t, m, 1, a, b)
		wantRows(t, m, []int{0, 0}, []int{0, 0}, most)
		m = made(t, 2)
		learn(t, m, 0, a)
		learn(t, m, 1, b)
		wantRows(t, m, least, a, b)
	}
}

// Wrong inputs: each is refused and turns nothing (R5).

func TestLearnRefusesNodesThatAreNot(t *testing.T) {
	for _, nodes := range []int{1, 2, 15, 16} {
		m := made(t, nodes)
		for node := range nodes {
			learn(t, m, node, all(nodes, node+2))
		}
		for _, node := range []int{math.MinInt, math.MinInt + 1, -nodes, -2, -1, nodes, nodes + 1, 17, 1 << 32, 1<<32 + nodes - 1, math.MaxInt - 1, math.MaxInt} {
			wantRefused(t, m, node, all(nodes, 99))
			wantRefused(t, m, node, nil)
			wantNoRow(t, m, node)
		}
		rows := make([][]int, nodes)
		for node := range nodes {
			rows[node] = all(nodes, node+2)
		}
		wantRows(t, m, all(nodes, 2), rows...)
	}
}

func TestLearnRefusesVectorsOfAnotherLength(t *testing.T) {
	for nodes := 1; nodes <= 16; nodes++ {
		m := made(t, nodes)
		for length := range 19 {
			if length != nodes {
				wantRefused(t, m, 0, all(length, 3))
				wantRefused(t, m, nodes-1, all(length, 0))
			}
		}
		wantRefused(t, m, 0, nil)
		wantRefused(t, m, 0, []int{})
		wantRefused(t, m, 0, all(nodes+65536, 3))
		wantRefused(t, m, 0, all(nodes, 3)[:nodes-1])
		zeros := make([]int, nodes)
		wantRows(t, m, zeros, slices.Repeat([][]int{zeros}, nodes)...)
	}
}

// One wrong number at each place, with others above the row: none of these is
// taken in.
func TestLearnRefusesAWrongNumberAnywhere(t *testing.T) {
	for _, nodes := range []int{1, 2, 3, 15, 16} {
		m := made(t, nodes)
		for node := range nodes {
			learn(t, m, node, all(nodes, 4))
		}
		for place := range nodes {
			for _, x := range far {
				v := all(nodes, 8)
				v[place] = x
				wantRefused(t, m, 0, v)
				wantRefused(t, m, nodes-1, v)
			}
		}
		wantRows(t, m, all(nodes, 4), slices.Repeat([][]int{all(nodes, 4)}, nodes)...)
	}
}

// A matrix goes on behind a call that was refused.
func TestLearnBehindARefusal(t *testing.T) {
	m := made(t, 2)
	wantRefused(t, m, 0, []int{9, -1})
	learn(t, m, 0, []int{1, 2})
	wantRefused(t, m, 2, []int{9, 9})
	learn(t, m, 1, []int{2, 1})
	wantRows(t, m, []int{1, 1}, []int{1, 2}, []int{2, 1})
}

// R3.

func TestNilMatrix(t *testing.T) {
	var m *Matrix
	for _, node := range []int{math.MinInt, -1, 0, 1, math.MaxInt} {
		for _, v := range [][]int{nil, {1}, {-1}, all(17, 1)} {
			if err := m.Learn(node, v); err != api.ErrNil {
				t.Errorf("R3: Learn = %d, want ErrNil", err)
			}
		}
		if row, err := m.Row(node); len(row) != 0 || err != api.ErrNil {
			t.Errorf("R3: Row = %v, %d, want ErrNil", row, err)
		}
	}
	if got := m.Least(); len(got) != 0 {
		t.Errorf("R3: Least = %v", got)
	}
}

// A matrix that New did not make has no node (R1).
func TestMatrixThatWasNotMade(t *testing.T) {
	var m Matrix
	wantRefused(t, &m, 0, nil)
	wantRefused(t, &m, 0, []int{1})
	wantRows(t, &m, nil)
}

// R4.

// roomy is v with spare room behind it that is filled with marks.
func roomy(v []int) []int {
	long := append(slices.Clone(v), 901, 902, 903, 904)
	return long[:len(v)]
}

// wantKept wants v and its spare room as roomy made them.
func wantKept(t *testing.T, v, want []int) {
	t.Helper()
	whole := append(slices.Clone(want), 901, 902, 903, 904)
	if !slices.Equal(v[:len(whole)], whole) {
		t.Errorf("R4: an argument and its room: %v, want %v", v[:len(whole)], whole)
	}
}

// spoil changes v and its spare room.
func spoil(v []int) {
	v = v[:cap(v)]
	for i := range v {
		v[i] = -7
	}
}

func TestLearnLeavesItsArgument(t *testing.T) {
	m := made(t, 3)
	for _, v := range [][]int{{3, 0, 7}, {1, 4, 7}, {9, 9, 9}, {0, 0, 0}, {1, 2}, {1, -1, 2}, {}, {1, 2, 3, 4}} {
		arg := roomy(v)
		m.Learn(1, arg)
		wantKept(t, arg, v)
		m.Learn(5, arg)
		wantKept(t, arg, v)
	}
}

// The vector is above the row, below it, and beside it: it is kept in no case.
func TestLearnKeepsNoArgument(t *testing.T) {
	for _, v := range [][]int{{8, 8}, {0, 0}, {8, 0}, {4, 4}} {
		m := made(t, 2)
		learn(t, m, 0, []int{4, 4})
		arg := roomy(v)
		learn(t, m, 0, arg)
		spoil(arg)
		want := []int{max(4, v[0]), max(4, v[1])}
		wantRows(t, m, []int{0, 0}, want, []int{0, 0})
		learn(t, m, 1, []int{9, 9})
		wantRows(t, m, want, want, []int{9, 9})
	}
}

// One list that all nodes learn gives rows that stand apart.
func TestRowsStandApart(t *testing.T) {
	for _, nodes := range []int{2, 3, 16} {
		m, v := made(t, nodes), all(nodes, 5)
		for node := range nodes {
			learn(t, m, node, v)
		}
		for node := range nodes {
			learn(t, m, node, all(nodes, 6+node))
			for other := range nodes {
				want := all(nodes, 5)
				if other <= node {
					want = all(nodes, 6+other)
				}
				if got, _ := m.Row(other); !slices.Equal(got, want) {
					t.Errorf("R4: row %d: %v, want %v", other, got, want)
				}
			}
		}
	}
}

func TestAnswersAreNewMemory(t *testing.T) {
	for nodes := 1; nodes <= 16; nodes++ {
		m, rows := made(t, nodes), make([][]int, nodes)
		for node := range nodes {
			rows[node] = all(nodes, node+2)
			learn(t, m, node, rows[node])
		}
		least, again := m.Least(), m.Least()
		for node := range nodes {
			row, _ := m.Row(node)
			other, _ := m.Row(node)
			spoil(row)
			if !slices.Equal(other, rows[node]) {
				t.Errorf("R4: the second answer: %v, want %v", other, rows[node])
			}
			spoil(other)
		}
		spoil(least)
		if !slices.Equal(again, all(nodes, 2)) {
			t.Errorf("R4: the second answer: %v", again)
		}
		spoil(again)
		wantRows(t, m, all(nodes, 2), rows...)
	}
}

// An answer stays as it was told when the matrix learns more.
func TestAnswersStayBehindLearning(t *testing.T) {
	m := made(t, 2)
	learn(t, m, 0, []int{1, 2})
	row, _ := m.Row(0)
	least := m.Least()
	learn(t, m, 0, []int{7, 7})
	learn(t, m, 1, []int{7, 7})
	if !slices.Equal(row, []int{1, 2}) || !slices.Equal(least, []int{0, 0}) {
		t.Errorf("R4: %v, %v", row, least)
	}
}

// A row or a Least that is learned again is not kept either.
func TestLearningAnAnswer(t *testing.T) {
	m := made(t, 2)
	learn(t, m, 0, []int{3, 4})
	row, _ := m.Row(0)
	learn(t, m, 1, row)
	learn(t, m, 0, row)
	spoil(row)
	wantRows(t, m, []int{3, 4}, []int{3, 4}, []int{3, 4})
}

// R5: asking turns nothing, and objects of their own may be used side by side.

func TestAskingTurnsNothing(t *testing.T) {
	m := made(t, 2)
	learn(t, m, 0, []int{3, 4})
	for range 3 {
		wantRows(t, m, []int{0, 0}, []int{3, 4}, []int{0, 0})
	}
}

func TestFromSeveralGoroutines(t *testing.T) {
	var done sync.WaitGroup
	shared := []int{5, 6, 7}
	for k := range 8 {
		done.Add(1)
		go func() {
			defer done.Done()
			for range 300 {
				m, _ := New(3)
				m.Learn(0, shared)
				m.Learn(1, []int{k, 9, 9})
				m.Learn(2, shared)
				want := []int{min(5, k), 6, 7}
				if got := m.Least(); !slices.Equal(got, want) {
					t.Errorf("R5: %v, want %v", got, want)
					return
				}
			}
		}()
	}
	done.Wait()
}
