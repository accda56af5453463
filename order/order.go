// Package order says in which row things stand that have no row by themselves.
package order

import (
	"cmp"

	"tattle/api"
)

// Dots answers less than 0, if a stands ahead of b, more than 0, if behind it, and 0
// of one dot: by Node, then by Seq. It takes no difference of the numbers, since the
// smallest and the greatest ones come in too.
func Dots(a, b api.Dot) int {
	if byNode := cmp.Compare(a.Node, b.Node); byNode != 0 {
		return byNode
	}
	return cmp.Compare(a.Seq, b.Seq)
}
