package cell

import (
	"strconv"
	"strings"

	"tattle/api"
	"tattle/gauss"
	"tattle/order"
	"tattle/orset"
	"tattle/quote"
	"tattle/rga"
	"tattle/vec"
)

// rules are those of cells of one Kind: what is left of one without that Kind's own
// parts, whether these may be, and what they are read as.
type rules struct {
	rest func(c api.Cell) api.Cell
	may  func(c api.Cell, nodes int) bool
	read func(c api.Cell) (string, api.Errno)
}

// rulesOf answers the rules of that Kind, and whether there is such a Kind.
func rulesOf(kind int) (rules, bool) {
	all := []rules{
		api.CellLww:   {withoutWrite, mayWrite, readWrite},
		api.CellCount: {withoutNum, mayNum, readNum},
		api.CellSet:   {withoutEntries, mayEntries, readEntries},
		api.CellList:  {withoutElems, mayElems, readElems},
	}
	if kind < 0 || kind >= len(all) {
		return rules{}, false
	}
	return all[kind], true
}

func withoutWrite(c api.Cell) api.Cell {
	c.Set, c.Stamp, c.Value = false, api.Stamp{}, ""
	return c
}

func withoutNum(c api.Cell) api.Cell {
	c.Num = api.Pair{}
	return c
}

func withoutEntries(c api.Cell) api.Cell {
	c.Entries = nil
	return c
}

func withoutElems(c api.Cell) api.Cell {
	c.Elems = nil
	return c
}

// empty tells whether nothing stands in c.
func empty(c api.Cell) bool {
	return !c.Set && c.Stamp == (api.Stamp{}) && c.Value == "" &&
		c.Num == (api.Pair{}) && len(c.Entries) == 0 && len(c.Elems) == 0
}

func mayWrite(c api.Cell, nodes int) bool {
	if !c.Set {
		return c.Stamp == (api.Stamp{}) && c.Value == ""
	}
	return mayTime(c.Stamp.Time) && c.Stamp.Node >= 0 && c.Stamp.Node < nodes && mayValue(c.Value)
}

func mayTime(time int) bool {
	return time >= 1 && time <= api.MaxTime
}

func mayValue(value string) bool {
	return len(value) <= api.MaxValue
}

// mayNum leaves the limits to layer 6: beside the zero pair, which changes nothing, it
// refuses just what may not be.
func mayNum(c api.Cell, _ int) bool {
	_, err := gauss.Add(c.Num, api.Pair{})
	return err == api.OK
}

func mayEntries(c api.Cell, _ int) bool {
	for i, e := range c.Entries {
		if !vec.Has(c.Seen, e.Dot) || !mayValue(e.Value) {
			return false
		}
		if i > 0 && order.Dots(c.Entries[i-1].Dot, e.Dot) >= 0 {
			return false
		}
	}
	return true
}

// mayElems keeps each dot's place, so that many elements do not take the time of their
// square: they stand in no row of their dots.
func mayElems(c api.Cell, _ int) bool {
	places := make(map[api.Dot]int, len(c.Elems))
	for i, e := range c.Elems {
		if _, twice := places[e.Dot]; twice || !mayElem(e, c.Seen) {
			return false
		}
		places[e.Dot] = i
	}
	return true
}

func mayElem(e api.Elem, seen []int) bool {
	return vec.Has(seen, e.Dot) && mayTime(e.Time) && mayValue(e.Value) &&
		(!e.Gone || e.Value == "")
}

func readWrite(c api.Cell) (string, api.Errno) {
	if !c.Set {
		return "null", api.OK
	}
	return quote.Text(c.Value), api.OK
}

func readNum(c api.Cell) (string, api.Errno) {
	if !mayNum(c, 0) {
		return "", api.ErrCellForm
	}
	re := strconv.Itoa(c.Num.Re)
	if c.Num.Im == 0 {
		return re, api.OK
	}
	return "[" + re + "," + strconv.Itoa(c.Num.Im) + "]", api.OK
}

func readEntries(c api.Cell) (string, api.Errno) {
	values, _ := orset.Values(c)
	return brackets(values), api.OK
}

func readElems(c api.Cell) (string, api.Errno) {
	values, _ := rga.Values(c)
	return brackets(values), api.OK
}

// brackets tells values one behind the other.
func brackets(values []string) string {
	var out strings.Builder
	out.WriteByte('[')
	for i, value := range values {
		if i > 0 {
			out.WriteByte(',')
		}
		out.WriteString(quote.Text(value))
	}
	out.WriteByte(']')
	return out.String()
}
