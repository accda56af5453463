package cell

import (
	"reflect"
	"slices"
	"testing"

	"tattle/api"
	"tattle/orset"
	"tattle/rga"
	"tattle/vec"
)

// dice are a row of numbers that looks like chance, and is the same each time.
type dice uint64

func (d *dice) below(n int) int {
	*d = *d*6364136223846793005 + 1442695040888963407
	return int(uint64(*d) >> 33 % uint64(n))
}

// replica is what one node has of one cell.
type replica struct {
	cell   api.Cell
	vector []int
	time   int
}

func newReplica(kind, nodes int) replica {
	c, _ := New(kind, nodes)
	return replica{c, make([]int, nodes), 0}
}

// take delivers o.
func (r *replica) take(t *testing.T, o api.Op) {
	t.Helper()
	next, err := Apply(r.cell, o, len(o.Deps))
	if err != api.OK || !May(next, len(o.Deps)) {
		t.Fatalf("P12.4: Apply(%v, %v) = %v, %d", r.cell, o, next, err)
	}
	r.cell, r.time = next, max(r.time, o.Time)
	r.vector[o.Dot.Node] = o.Dot.Seq
}

// make makes an operation of node's, of what it sees in its cell.
func (r *replica) make(d *dice, node int) api.Op {
	o := api.Op{Dot: dotOf(node, r.vector[node]+1), Time: r.time + 1, Deps: slices.Clone(r.vector), Type: "T", Id: "i", Field: "f"}
	value := []string{"tea", "milk", ""}[d.below(3)]
	switch r.cell.Kind {
	case api.CellLww:
		o.Value = value
	case api.CellCount:
		o.Kind, o.Num = api.OpAdd, api.Pair{Re: d.below(9) - 4, Im: d.below(9) - 4}
	case api.CellSet:
		o.Kind, o.Value = api.OpPut, value
		if d.below(3) == 0 {
			o.Kind, o.Value = api.OpDrop, ""
			o.Dots, _ = orset.Dots(r.cell, value)
		}
	case api.CellList:
		o.Kind, o.Value = api.OpInsert, value
		values, _ := rga.Values(r.cell)
		if at := d.below(len(values) + 1); at > 0 {
			o.Ref, _ = rga.At(r.cell, at-1)
			if d.below(3) == 0 {
				o.Kind, o.Value = api.OpErase, ""
			}
		}
	}
	return o
}

// history is operations of one cell of that kind, made by nodes that hear of some of
// the others' now and then.
func history(t *testing.T, d *dice, kind, nodes, length int) []api.Op {
	t.Helper()
	all := make([]replica, nodes)
	for i := range all {
		all[i] = newReplica(kind, nodes)
	}
	var ops []api.Op
	for len(ops) < length {
		node := d.below(nodes)
		r := &all[node]
		for _, o := range ops {
			if !vec.Has(r.vector, o.Dot) && vec.Under(o.Deps, r.vector) && d.below(3) == 0 {
				r.take(t, o)
			}
		}
		o := r.make(d, node)
		r.take(t, o)
		ops = append(ops, o)
	}
	return ops
}

// wantAlike wants of a that it is b, in all that stands in it and in what it reads as.
func wantAlike(t *testing.T, a, b api.Cell) {
	t.Helper()
	x, _ := Read(a)
	y, _ := Read(b)
	if !same(a, b) || x != y {
		t.Errorf("P12.4: %v reads as %s, %v as %s", a, x, b, y)
	}
}

// P12.4: each row in which each operation comes behind its Deps.
func TestInEachRow(t *testing.T) {
	d := dice(7)
	for i := range 120 {
		kind, rows := i%4, 0
		ops := history(t, &d, kind, 3, 6)
		var first api.Cell
		var grow func(r replica, left []api.Op)
		grow = func(r replica, left []api.Op) {
			if len(left) == 0 {
				if rows++; rows == 1 {
					first = r.cell
				}
				wantAlike(t, r.cell, first)
			}
			for i, o := range left {
				if vec.Under(o.Deps, r.vector) {
					next := replica{r.cell, slices.Clone(r.vector), r.time}
					next.take(t, o)
					grow(next, slices.Delete(slices.Clone(left), i, i+1))
				}
			}
		}
		grow(newReplica(kind, 3), ops)
		if rows == 0 {
			t.Fatalf("no row of %v", ops)
		}
	}
}

// inSomeRow answers the cell of ops, each behind its Deps, in a row by d.
func inSomeRow(t *testing.T, d *dice, kind int, ops []api.Op) api.Cell {
	t.Helper()
	r := newReplica(kind, len(ops[0].Deps))
	for left := slices.Clone(ops); len(left) > 0; {
		i := d.below(len(left))
		if o := left[i]; vec.Under(o.Deps, r.vector) {
			r.take(t, o)
			left = slices.Delete(left, i, i+1)
		}
	}
	if !slices.Equal(r.cell.Seen, r.vector) {
		t.Errorf("P12.2: Seen %v, want %v", r.cell.Seen, r.vector)
	}
	return r.cell
}

func TestInSomeRowsOfManyOperations(t *testing.T) {
	d := dice(3)
	for i := range 200 {
		kind, nodes := i%4, []int{1, 2, 3, 5, 16}[d.below(5)]
		ops := history(t, &d, kind, nodes, 40)
		first := inSomeRow(t, &d, kind, ops)
		for range 4 {
			wantAlike(t, inSomeRow(t, &d, kind, ops), first)
		}
	}
}

// The operations of the tests have all that makes rows matter.
func TestHistoriesAreRich(t *testing.T) {
	d := dice(3)
	kinds := map[int]int{}
	var ahead, behind, several int
	for i := range 200 {
		for _, o := range history(t, &d, i%4, 3, 40) {
			kinds[o.Kind]++
			if o.Kind == api.OpInsert && o.Ref == (api.Dot{}) {
				ahead++
			}
			if o.Kind == api.OpInsert && o.Ref != (api.Dot{}) {
				behind++
			}
			if len(o.Dots) > 1 {
				several++
			}
		}
	}
	if len(kinds) != 6 || ahead < 100 || behind < 100 || several < 100 {
		t.Errorf("%v, %d, %d, %d", kinds, ahead, behind, several)
	}
}

// T2: writes without knowledge of each other, in all rows: the latest stamp stays.
func TestTheLatestStampStays(t *testing.T) {
	write := func(node, seq, time int, value string) api.Op {
		o := api.Op{Dot: dotOf(node, seq), Time: time, Deps: []int{0, 0, 0}, Type: "T", Id: "i", Field: "f", Value: value}
		o.Deps[node] = seq - 1
		return o
	}
	ops := []api.Op{write(0, 1, 5, "a"), write(1, 1, 5, "b"), write(2, 1, 4, "c"), write(1, 2, 6, "d"), write(0, 2, 6, "e")}
	d := dice(1)
	for range 50 {
		c := inSomeRow(t, &d, api.CellLww, ops)
		want := api.Cell{Set: true, Stamp: api.Stamp{Time: 6, Node: 1}, Value: "d", Seen: []int{2, 2, 1}}
		if !reflect.DeepEqual(c, want) {
			t.Errorf("P12.4: %v, want %v", c, want)
		}
	}
}

// R1, R2 and P12.4, of whatever histories come.
func FuzzHistories(f *testing.F) {
	for kind := range 4 {
		f.Add(uint64(kind), kind, 3, 20)
	}
	f.Fuzz(func(t *testing.T, seed uint64, kind, nodes, length int) {
		d := dice(seed)
		kind, nodes, length = kind&3, 1+nodes&15, 1+length&63
		ops := history(t, &d, kind, nodes, length)
		wantAlike(t, inSomeRow(t, &d, kind, ops), inSomeRow(t, &d, kind, ops))
	})
}
