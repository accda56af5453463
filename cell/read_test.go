package cell

import (
	"fmt"
	"math"
	"strings"
	"testing"

	"tattle/api"
)

func wantRead(t *testing.T, c api.Cell, want string) {
	t.Helper()
	if got, err := Read(c); got != want || err != api.OK {
		t.Errorf("P12.3: Read(%v) = %.200s, %d, want %.200s", short(c), got, err, want)
	}
}

func wantReadRefused(t *testing.T, c api.Cell) {
	t.Helper()
	if got, err := Read(c); got != "" || err != api.ErrCellForm {
		t.Errorf("P12.3: Read(%v) = %.200s, %d, want ErrCellForm", short(c), got, err)
	}
}

// plainText is what plain's cell of that kind is read as.
func plainText(kind int) string {
	switch kind {
	case api.CellLww:
		return `"tea"`
	case api.CellCount:
		return `[-3,64]`
	case api.CellSet:
		return `["","milk","tea"]`
	}
	return `["oil","oil",""]`
}

func TestReadOfEachKind(t *testing.T) {
	for _, kind := range allKinds {
		wantRead(t, plain(kind), plainText(kind))
	}
}

func TestReadOfNewCells(t *testing.T) {
	for kind, want := range []string{"null", "0", "[]", "[]"} {
		for n := 1; n <= 16; n++ {
			c, _ := New(kind, n)
			wantRead(t, c, want)
		}
		wantRead(t, api.Cell{Kind: kind}, want)
		wantRead(t, api.Cell{Kind: kind, Entries: []api.Entry{}, Elems: []api.Elem{}}, want)
	}
}

func lwwOf(value string) api.Cell {
	return api.Cell{Set: true, Stamp: api.Stamp{Time: 1}, Value: value, Seen: []int{1}}
}

func setOf(values ...string) api.Cell {
	c := api.Cell{Kind: api.CellSet, Seen: []int{len(values)}}
	for i, value := range values {
		c.Entries = append(c.Entries, entryOf(0, i+1, value))
	}
	return c
}

func listOf(values ...string) api.Cell {
	c := api.Cell{Kind: api.CellList, Seen: []int{len(values)}}
	for i, value := range values {
		c.Elems = append(c.Elems, elemOf(0, i+1, 1, value))
	}
	return c
}

func TestReadOfAWrite(t *testing.T) {
	wantRead(t, lwwOf(""), `""`)
	wantRead(t, lwwOf("null"), `"null"`)
	wantRead(t, lwwOf("a b"), `"a b"`)
	wantRead(t, lwwOf(`a"b\c`), `"a\"b\\c"`)
	wantRead(t, lwwOf("\n\x00\x7f\xff"), `"\u000a\u0000\u007f\u00ff"`)
	wantRead(t, lwwOf(strings.Repeat("v", 256)), `"`+strings.Repeat("v", 256)+`"`)
}

// What is not Set is read as null, though a Value should stand there.
func TestReadOfWhatIsNotSet(t *testing.T) {
	wantRead(t, api.Cell{Value: "v", Stamp: api.Stamp{Time: 4}}, "null")
	wantRead(t, api.Cell{Set: true}, `""`)
}

// Each byte, in a text of each Kind that has some.
func TestReadOfEachByte(t *testing.T) {
	for b := range 256 {
		want := fmt.Sprintf(`"a\u00%02xb"`, b)
		if b >= 32 && b < 127 {
			want = fmt.Sprintf(`"a%cb"`, b)
		}
		if b == '"' || b == '\\' {
			want = fmt.Sprintf(`"a\%cb"`, b)
		}
		text := "a" + string([]byte{byte(b)}) + "b"
		wantRead(t, lwwOf(text), want)
		wantRead(t, setOf(text), "["+want+"]")
		wantRead(t, listOf(text), "["+want+"]")
	}
}

func TestReadOfNum(t *testing.T) {
	for want, num := range map[string]api.Pair{
		"0":                                     {},
		"1":                                     {Re: 1},
		"-1":                                    {Re: -1},
		"120":                                   {Re: 120},
		"[0,1]":                                 {Im: 1},
		"[0,-1]":                                {Im: -1},
		"[1,1]":                                 {Re: 1, Im: 1},
		"[-5,7]":                                {Re: -5, Im: 7},
		"[-5,-70]":                              {Re: -5, Im: -70},
		"4503599627370496":                      {Re: 1 << 52},
		"-4503599627370496":                     {Re: -1 << 52},
		"[0,4503599627370496]":                  {Im: 1 << 52},
		"[4503599627370495,-4503599627370496]":  {Re: 1<<52 - 1, Im: -1 << 52},
		"[-4503599627370496,-4503599627370495]": {Re: -1 << 52, Im: -1<<52 + 1},
	} {
		wantRead(t, api.Cell{Kind: api.CellCount, Num: num}, want)
	}
}

func TestReadOfNumThatMayNotBe(t *testing.T) {
	for _, x := range farParts {
		wantReadRefused(t, api.Cell{Kind: api.CellCount, Num: api.Pair{Re: x}})
		wantReadRefused(t, api.Cell{Kind: api.CellCount, Num: api.Pair{Im: x}})
		wantReadRefused(t, api.Cell{Kind: api.CellCount, Num: api.Pair{Re: x, Im: -x}})
		wantReadRefused(t, api.Cell{Kind: api.CellCount, Num: api.Pair{Re: 5, Im: x}, Seen: []int{1}})
	}
}

// Num is CellCount's alone: in a cell of another Kind it is not looked at.
func TestReadOfOtherParts(t *testing.T) {
	for _, kind := range allKinds {
		c := full(kind)
		want := []string{`"old"`, `[13,14]`, `["one","two"]`, `["elem","end"]`}[kind]
		wantRead(t, c, want)
		c.Seen = nil
		wantRead(t, c, want)
		c.Seen = []int{math.MinInt}
		wantRead(t, c, want)
		if kind != api.CellCount {
			c.Num = api.Pair{Re: math.MinInt, Im: math.MaxInt}
			wantRead(t, c, want)
		}
	}
}

func TestReadOfKindsThatAreNone(t *testing.T) {
	for _, kind := range noKinds {
		wantReadRefused(t, api.Cell{Kind: kind})
		wantReadRefused(t, full(kind))
		wantReadRefused(t, plain(kind))
	}
}

// By bytes, each once.
func TestReadOfSets(t *testing.T) {
	wantRead(t, setOf("tea"), `["tea"]`)
	wantRead(t, setOf(""), `[""]`)
	wantRead(t, setOf("b", "a"), `["a","b"]`)
	wantRead(t, setOf("b", "a", "b", "c", "a", "b"), `["a","b","c"]`)
	wantRead(t, setOf("z", "\xff", "", "Z", "z\x00", "10", "9"), `["","10","9","Z","z","z\u0000","\u00ff"]`)
	wantRead(t, setOf(`","`, `a`), `["\",\"","a"]`)
}

// In the elements' row, each as often as it stands there; those that are Gone aside.
func TestReadOfLists(t *testing.T) {
	wantRead(t, listOf("tea"), `["tea"]`)
	wantRead(t, listOf(""), `[""]`)
	wantRead(t, listOf("", ""), `["",""]`)
	wantRead(t, listOf("b", "a", "b"), `["b","a","b"]`)
	c := api.Cell{Kind: api.CellList, Elems: []api.Elem{goneOf(0, 1, 1), elemOf(1, 1, 1, "b"), goneOf(0, 2, 1), goneOf(0, 3, 1), elemOf(1, 2, 1, ""), elemOf(1, 3, 1, "a"), goneOf(0, 4, 1)}}
	wantRead(t, c, `["b","","a"]`)
	wantRead(t, api.Cell{Kind: api.CellList, Elems: []api.Elem{goneOf(0, 1, 1), goneOf(0, 2, 1)}}, "[]")
}
