package op

import (
	"strings"

	"tattle/api"
	"tattle/varint"
)

// writer tells an operation that may be: none of its numbers is below 0, and none of
// its texts too long, so that layer 1 refuses nothing.
type writer struct {
	out strings.Builder
}

// op tells o. The parts behind Field stand in one row for all Kinds, since no Kind asks
// for another one.
func (w *writer) op(o api.Op) {
	w.dot(o.Dot)
	w.number(o.Time)
	for _, seq := range o.Deps {
		w.number(seq)
	}
	w.number(o.Kind)
	w.text(o.Type)
	w.text(o.Id)
	w.text(o.Field)
	p, _ := partsOf(o.Kind)
	if p.num {
		w.number(fold(o.Num.Re))
		w.number(fold(o.Num.Im))
	}
	if p.dots {
		w.dots(o.Dots)
	}
	if p.ref {
		w.dot(o.Ref)
	}
	if p.value {
		w.text(o.Value)
	}
}

func (w *writer) dots(ds []api.Dot) {
	w.number(len(ds))
	for _, d := range ds {
		w.dot(d)
	}
}

func (w *writer) dot(d api.Dot) {
	w.number(d.Node)
	w.number(d.Seq)
}

func (w *writer) number(x int) {
	s, _ := varint.Put(x)
	w.out.WriteString(s)
}

func (w *writer) text(x string) {
	s, _ := varint.PutText(x)
	w.out.WriteString(s)
}

// fold answers a number from 0 on for each x, and a small one for each x near 0.
func fold(x int) int {
	if x < 0 {
		return -2*x - 1
	}
	return 2 * x
}
