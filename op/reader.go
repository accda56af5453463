package op

import (
	"tattle/api"
	"tattle/varint"
)

// reader reads what writer tells. Once it failed it reads nothing more, and all that it
// answers is zero.
type reader struct {
	s      string
	at     int
	failed bool
}

// op reads an operation. It may be one that may not be.
func (r *reader) op(nodes int) api.Op {
	var o api.Op
	o.Dot = r.dot()
	o.Time = r.number()
	for range nodes {
		o.Deps = append(o.Deps, r.number())
	}
	o.Kind = r.number()
	o.Type = r.text()
	o.Id = r.text()
	o.Field = r.text()
	p, _ := partsOf(o.Kind)
	if p.num {
		o.Num.Re = unfold(r.number())
		o.Num.Im = unfold(r.number())
	}
	if p.dots {
		o.Dots = r.dots()
	}
	if p.ref {
		o.Ref = r.dot()
	}
	if p.value {
		o.Value = r.text()
	}
	return o
}

func (r *reader) dots() []api.Dot {
	many := r.number()
	// A number of dots that may not be is not believed: it may be any.
	if many > api.MaxDots {
		r.failed = true
		return nil
	}
	var ds []api.Dot
	for range many {
		ds = append(ds, r.dot())
	}
	return ds
}

func (r *reader) dot() api.Dot {
	node := r.number()
	return api.Dot{Node: node, Seq: r.number()}
}

func (r *reader) number() int {
	if r.failed {
		return 0
	}
	x, end, err := varint.Get(r.s, r.at)
	r.at, r.failed = end, err != api.OK
	return x
}

func (r *reader) text() string {
	if r.failed {
		return ""
	}
	x, end, err := varint.GetText(r.s, r.at)
	r.at, r.failed = end, err != api.OK
	return x
}

// unfold answers the number of which fold made x. It halves first, since x may be the
// greatest number.
func unfold(x int) int {
	if x%2 != 0 {
		return -(x / 2) - 1
	}
	return x / 2
}
