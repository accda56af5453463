package op

import (
	"math"
	"reflect"
	"slices"
	"strings"
	"sync"
	"testing"

	"tattle/api"
)

// short keeps what a failing test tells short.
func short(o api.Op) api.Op {
	for _, s := range []*string{&o.Type, &o.Id, &o.Field, &o.Value} {
		if len(*s) > 40 {
			*s = (*s)[:40]
		}
	}
	return o
}

func wantMay(t *testing.T, what string, o api.Op, nodes int, want bool) {
	t.Helper()
	if got := May(o, nodes); got != want {
		t.Errorf("P11.1: %s: May(%v, %d) = %v, want %v", what, short(o), nodes, got, want)
	}
}

func TestNumbersAreTheDocuments(t *testing.T) {
	all := [][2]int{
		{api.OpSet, 0}, {api.OpAdd, 1}, {api.OpPut, 2}, {api.OpDrop, 3}, {api.OpInsert, 4}, {api.OpErase, 5},
		{api.CellLww, 0}, {api.CellCount, 1}, {api.CellSet, 2}, {api.CellList, 3}, {int(api.ErrOpForm), 1100}, {int(api.OK), 0},
		{api.MaxNodes, 16}, {api.MaxSeq, 1048575}, {api.MaxTime, 16777215}, {api.MaxNum, 1099511627776},
		{api.MaxValue, 256}, {api.MaxName, 32}, {api.MaxDots, 64},
	}
	for i, n := range all {
		if n[0] != n[1] {
			t.Errorf("number %d: %d, want %d", i, n[0], n[1])
		}
	}
}

// P11.1, Kind.

// wantKind wants that answer of operations of that Kind, whatever else stands in them.
func wantKind(t *testing.T, kind, want int) {
	t.Helper()
	others := []api.Op{{}, plain(api.OpSet), plain(api.OpAdd), plain(api.OpDrop), plain(api.OpErase), {Dot: dotOf(-1, -1), Time: -5, Value: "v", Num: api.Pair{Re: 1}, Ref: dotOf(1, 1), Dots: many(99)}}
	for _, o := range append(others, plain(kind)) {
		o.Kind = kind
		if got := Kind(o); got != want {
			t.Errorf("P11.1: Kind(%v) = %d, want %d", o, got, want)
		}
	}
}

func TestKindOfEachKind(t *testing.T) {
	for kind, want := range []int{0, 1, 2, 2, 3, 3} {
		wantKind(t, kind, want)
	}
}

func TestKindOfNone(t *testing.T) {
	for _, kind := range noKinds {
		wantKind(t, kind, -1)
	}
}

// P11.1, May.

func TestMayOfWhatMayBe(t *testing.T) {
	each(fineRows(), func(what string, o api.Op) { wantMay(t, what, o, 3, true) })
}

func TestMayOfWhatMayNotBe(t *testing.T) {
	each(badRows(), func(what string, o api.Op) { wantMay(t, what, o, 3, false) })
}

func TestMayOfPartsThatTheKindDoesNotName(t *testing.T) {
	each(strayRows(), func(what string, o api.Op) { wantMay(t, what, o, 3, false) })
}

func TestMayOfKindsThatAreNone(t *testing.T) {
	for _, kind := range noKinds {
		for _, like := range allKinds {
			o := plain(like)
			o.Kind = kind
			wantMay(t, "Kind", o, 3, false)
		}
		wantMay(t, "Kind", plain(kind), 3, false)
	}
}

// An operation of one Kind is one of another Kind just where it has what that one names,
// and nothing else: plain's Value, Ref or both.
func TestMayOfOtherKinds(t *testing.T) {
	alike := map[int][]int{
		api.OpSet:    {api.OpSet, api.OpPut, api.OpInsert},
		api.OpPut:    {api.OpSet, api.OpPut, api.OpInsert},
		api.OpErase:  {api.OpErase, api.OpInsert},
		api.OpAdd:    {api.OpAdd},
		api.OpDrop:   {api.OpDrop},
		api.OpInsert: {api.OpInsert},
	}
	for like, kinds := range alike {
		for _, kind := range allKinds {
			o := plain(like)
			o.Kind = kind
			wantMay(t, "Kind", o, 3, slices.Contains(kinds, kind))
		}
	}
}

// Each node of each cluster, at the first Seq and at the last one.
func TestMayOfEachNodeOfEachCluster(t *testing.T) {
	for n := 1; n <= 16; n++ {
		for node := range n {
			for _, kind := range allKinds {
				if kind == api.OpErase && n == 1 {
					continue
				}
				wantMay(t, "nodes", of(n, node, 1, kind), n, true)
				wantMay(t, "nodes", of(n, node, 1048575, kind), n, true)
				for other := -2; other < 19; other++ {
					wantMay(t, "other nodes", of(n, node, 1, kind), other, other == n)
				}
			}
		}
	}
}

// In a cluster of one node, an erase is of what that node put.
func TestMayOfEraseOfOneNode(t *testing.T) {
	o := of(1, 0, 7, api.OpErase)
	o.Ref = dotOf(0, 6)
	wantMay(t, "Ref just in Deps", o, 1, true)
	o.Ref = dotOf(0, 7)
	wantMay(t, "Ref its own", o, 1, false)
}

func TestMayOfWrongNumbersOfNodes(t *testing.T) {
	counts := []int{0, -1, -3, 1, 2, 4, 16, 17, 18, 1 << 8, 1<<8 + 3, 1 << 32, 1<<32 + 3, math.MinInt, math.MinInt + 3, math.MaxInt - 1, math.MaxInt}
	for _, kind := range allKinds {
		for _, nodes := range counts {
			wantMay(t, "nodes", plain(kind), nodes, false)
		}
		for _, n := range []int{17, 18, 32} {
			wantMay(t, "nodes", of(n, 0, 5, kind), n, false)
			wantMay(t, "nodes", of(n, n-1, 5, kind), n, false)
		}
	}
}

// Deps that are too few or too many, the Dot's own Node among those that are missing.
func TestMayOfOtherLengthsOfDeps(t *testing.T) {
	for _, kind := range allKinds {
		for n := range 40 {
			o := plain(kind)
			o.Deps = slices.Repeat([]int{299}, n)
			wantMay(t, "Deps", o, 3, n == 3)
		}
		o := plain(kind)
		o.Deps = nil
		wantMay(t, "no Deps", o, 3, false)
	}
}

func TestMayOfTheZeroOperation(t *testing.T) {
	for nodes := -1; nodes < 18; nodes++ {
		wantMay(t, "zero", api.Op{}, nodes, false)
		wantMay(t, "zeros", api.Op{Deps: make([]int, max(nodes, 0))}, nodes, false)
	}
}

// R4.

// roomy is o with spare room behind its lists, and something in it.
func roomy(o api.Op) api.Op {
	deps, ds := o.Deps, o.Dots
	o.Deps = append(slices.Clone(deps), 77, 88)[:len(deps)]
	o.Dots = append(slices.Clone(ds), dotOf(7, 7), dotOf(8, 8))[:len(ds)]
	return o
}

// wantUntouched wants o to be roomy of was, its spare room too.
func wantUntouched(t *testing.T, o, was api.Op) {
	t.Helper()
	was = roomy(was)
	if !reflect.DeepEqual(o, was) {
		t.Errorf("R4: the argument is %v, want %v", short(o), short(was))
	}
	n, m := len(was.Deps), len(was.Dots)
	if !slices.Equal(o.Deps[:n+2], was.Deps[:n+2]) || !slices.Equal(o.Dots[:m+2], was.Dots[:m+2]) {
		t.Errorf("R4: the spare room is %v, %v", o.Deps[:n+2], o.Dots[:m+2])
	}
}

func TestArgumentsStay(t *testing.T) {
	check := func(_ string, was api.Op) {
		o := roomy(was)
		for _, nodes := range []int{3, 2, 4, 0, 17, math.MaxInt} {
			May(o, nodes)
			Kind(o)
			Put(o, nodes)
		}
		wantUntouched(t, o, was)
	}
	each(fineRows(), check)
	each(badRows(), check)
	each(strayRows(), check)
}

// R5.

func TestSecondCallsAnswerAlike(t *testing.T) {
	for range 3 {
		for _, kind := range allKinds {
			o, bad := plain(kind), plain(kind)
			bad.Time = 0
			wantMay(t, "plain", o, 3, true)
			wantMay(t, "bad", bad, 3, false)
			wantPut(t, "plain", o, 3)
			wantPutRefused(t, "bad", bad, 3)
		}
	}
}

func TestSeveralGoroutines(t *testing.T) {
	shared := []api.Op{plain(0), plain(1), plain(2), plain(3), plain(4), plain(5)}
	var all sync.WaitGroup
	for range 8 {
		all.Go(func() {
			for i := range 600 {
				o := shared[i%6]
				wantMay(t, "plain", o, 3, true)
				wantPut(t, "plain", o, 3)
				wantGetRefused(t, "cut", bytesOf(o)[:i%10], 3)
			}
		})
	}
	all.Wait()
}

// R1: great texts and lists end soon.
func TestGreatArguments(t *testing.T) {
	text := strings.Repeat("n", 1<<24)
	for _, kind := range allKinds {
		o := plain(kind)
		o.Type, o.Id, o.Field, o.Value = text, text, text, text
		o.Dots, o.Deps = many(1<<20), make([]int, 1<<20)
		wantMay(t, "great", o, 3, false)
		wantMay(t, "great", o, 1<<20, false)
		wantPutRefused(t, "great", o, 1<<20)
	}
	wantGetRefused(t, "great", text, 3)
	wantGetRefused(t, "great", strings.Repeat("\x01", 1<<24), 3)
}
