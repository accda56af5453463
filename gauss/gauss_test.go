package gauss

import (
	"math"
	"slices"
	"strings"
	"sync"
	"testing"

	"tattle/api"
)

// most is the greatest part, in digits of the document's own.
const most = 4503599627370496

// edges are parts that may be.
var edges = []int{-most, -most + 1, -most / 2, -1<<32 - 1, -1 << 32, -2, -1, 0, 1, 2, 1 << 32, 1<<32 + 1, most / 2, most - 1, most}

// far are parts that may not be; some look right once they are rounded to a float
// or once their upper bits are gone.
var far = []int{math.MinInt, math.MinInt + 1, math.MinInt + most, -1<<53 - 1, -1 << 53, -most - 2, -most - 1, most + 1, most + 2, 1 << 53, 1<<53 + 1, 1 << 60, 1<<60 + 5, math.MaxInt - most, math.MaxInt - 1, math.MaxInt}

func pairOf(re, im int) api.Pair {
	return api.Pair{Re: re, Im: im}
}

// wantAdd wants a and b, and b and a, to come out as want.
func wantAdd(t *testing.T, a, b, want api.Pair) {
	t.Helper()
	for range 2 {
		if got, err := Add(a, b); got != want || err != api.OK {
			t.Errorf("P6.1: Add(%v, %v) = %v, %d, want %v", a, b, got, err, want)
		}
		a, b = b, a
	}
}

// wantAddRefused wants a and b, and b and a, to be refused, with nothing beside the
// error (R2).
func wantAddRefused(t *testing.T, a, b api.Pair) {
	t.Helper()
	for range 2 {
		if got, err := Add(a, b); got != (api.Pair{}) || err != api.ErrGaussForm {
			t.Errorf("P6.1: Add(%v, %v) = %v, %d, want ErrGaussForm", a, b, got, err)
		}
		a, b = b, a
	}
}

func wantSum(t *testing.T, ps []api.Pair, want api.Pair) {
	t.Helper()
	if got, err := Sum(ps); got != want || err != api.OK {
		t.Errorf("P6.1: Sum(%v) = %v, %d, want %v", ps, got, err, want)
	}
}

func wantSumRefused(t *testing.T, ps []api.Pair) {
	t.Helper()
	if got, err := Sum(ps); got != (api.Pair{}) || err != api.ErrGaussForm {
		t.Errorf("P6.1: Sum(%v) = %v, %d, want ErrGaussForm", ps, got, err)
	}
}

func wantText(t *testing.T, re, im int, want string) {
	t.Helper()
	if got := Text(pairOf(re, im)); got != want {
		t.Errorf("P6.1: Text({%d, %d}) = %q, want %q", re, im, got, want)
	}
}

func TestNumbersAreTheDocuments(t *testing.T) {
	if api.MaxPart != most || api.ErrGaussForm != 600 || api.OK != 0 {
		t.Fatalf("MaxPart %d, ErrGaussForm %d, OK %d", int(api.MaxPart), api.ErrGaussForm, api.OK)
	}
}

// P6.1, Add.

func TestAddOfOrdinaryPairs(t *testing.T) {
	wantAdd(t, pairOf(3, 4), pairOf(10, 200), pairOf(13, 204))
	wantAdd(t, pairOf(-3, 4), pairOf(10, -200), pairOf(7, -196))
	wantAdd(t, pairOf(5, 0), pairOf(0, 7), pairOf(5, 7))
	wantAdd(t, pairOf(-3, -4), pairOf(3, 4), pairOf(0, 0))
	wantAdd(t, pairOf(1099511627776, -1), pairOf(1, 1099511627776), pairOf(1099511627777, 1099511627775))
}

// The parts do not run into each other, as they would in a product.
func TestAddIsPartByPart(t *testing.T) {
	wantAdd(t, pairOf(0, 2), pairOf(0, 3), pairOf(0, 5))
	wantAdd(t, pairOf(2, 0), pairOf(3, 0), pairOf(5, 0))
	wantAdd(t, pairOf(most, 0), pairOf(0, 1), pairOf(most, 1))
	wantAdd(t, pairOf(0, -most), pairOf(-1, 0), pairOf(-1, -most))
}

func TestAddOfZeroAndTheLimits(t *testing.T) {
	wantAdd(t, pairOf(0, 0), pairOf(0, 0), pairOf(0, 0))
	for _, re := range []int{-most, 0, most} {
		for _, im := range []int{-most, 0, most} {
			wantAdd(t, pairOf(re, im), pairOf(0, 0), pairOf(re, im))
			wantAdd(t, pairOf(re, im), pairOf(-re, -im), pairOf(0, 0))
		}
	}
}

// What comes out is at a limit, or one beyond it, in one part alone, while the other
// part is whatever it may be.
func TestAddAboutTheLimits(t *testing.T) {
	for _, sign := range []int{-1, 1} {
		for _, x := range []int{0, 1, 2, 1 << 32, most / 2, most - 1, most} {
			for _, other := range []int{-most, -1, 0, 1, most} {
				a, b := sign*x, sign*(most-x)
				wantAdd(t, pairOf(a, other), pairOf(b, 0), pairOf(sign*most, other))
				wantAdd(t, pairOf(other, a), pairOf(0, b), pairOf(other, sign*most))
				if x > 0 {
					wantAddRefused(t, pairOf(a, other), pairOf(b+sign, 0))
					wantAddRefused(t, pairOf(other, a), pairOf(0, b+sign))
				}
			}
		}
	}
	wantAdd(t, pairOf(most-1, 1-most), pairOf(1, -1), pairOf(most, -most))
	wantAddRefused(t, pairOf(most, most), pairOf(1, 1))
	wantAddRefused(t, pairOf(-most, -most), pairOf(-1, -1))
	wantAddRefused(t, pairOf(most, -most), pairOf(most, -most))
	wantAddRefused(t, pairOf(most, -most), pairOf(1, 1))
	wantAddRefused(t, pairOf(most, -most), pairOf(-1, -1))
}

// Each edge against each: exact to the last bit, and refused just beyond the limits.
func TestAddOfAllEdges(t *testing.T) {
	for _, re := range edges {
		for _, im := range edges {
			for _, re2 := range edges {
				for _, im2 := range edges {
					want := pairOf(re+re2, im+im2)
					if max(want.Re, want.Im) > most || min(want.Re, want.Im) < -most {
						wantAddRefused(t, pairOf(re, im), pairOf(re2, im2))
					} else {
						wantAdd(t, pairOf(re, im), pairOf(re2, im2), want)
					}
				}
			}
		}
	}
}

// A part that may not be is refused even where the sum would be within the limits.
func TestAddRefusesPartsBeyondTheLimits(t *testing.T) {
	others := []api.Pair{{}, {Re: 1, Im: 1}, {Re: -1, Im: -1}, {Re: most, Im: most}, {Re: -most, Im: -most}}
	for _, x := range far {
		for _, y := range []int{-most, 0, 1, most} {
			for _, b := range others {
				wantAddRefused(t, pairOf(x, y), b)
				wantAddRefused(t, pairOf(y, x), b)
			}
		}
		for _, y := range far {
			wantAddRefused(t, pairOf(x, y), pairOf(0, 0))
			wantAddRefused(t, pairOf(x, 0), pairOf(y, 0))
			wantAddRefused(t, pairOf(0, x), pairOf(0, y))
			wantAddRefused(t, pairOf(x, 0), pairOf(0, y))
		}
	}
}

// P6.1, Sum.

func TestSumOfNoPairs(t *testing.T) {
	wantSum(t, nil, pairOf(0, 0))
	wantSum(t, []api.Pair{}, pairOf(0, 0))
	wantSum(t, make([]api.Pair, 0, 8), pairOf(0, 0))
}

func TestSumOfOnePair(t *testing.T) {
	for _, re := range edges {
		for _, im := range edges {
			wantSum(t, []api.Pair{{Re: re, Im: im}}, pairOf(re, im))
		}
	}
}

func TestSumOfSomePairs(t *testing.T) {
	wantSum(t, []api.Pair{{Re: 1, Im: 2}, {Re: 30, Im: -40}}, pairOf(31, -38))
	wantSum(t, []api.Pair{{Re: 1, Im: 2}, {Re: 30, Im: -40}, {Re: -500, Im: 600}}, pairOf(-469, 562))
	wantSum(t, []api.Pair{{Re: 5}, {Re: 5}, {Im: 5}, {Re: -10, Im: -5}}, pairOf(0, 0))
	wantSum(t, []api.Pair{{}, {}, {}}, pairOf(0, 0))
}

func TestSumOfManyPairs(t *testing.T) {
	const many = 1 << 16
	ps := make([]api.Pair, many)
	for i := range many {
		ps[i] = pairOf(i, -2*i)
	}
	wantSum(t, ps, pairOf(many*(many-1)/2, -many*(many-1)))
}

// Sums that come just to a limit, and by one more step beyond it.
func TestSumComesToTheLimits(t *testing.T) {
	for _, sign := range []int{-1, 1} {
		re := slices.Repeat([]api.Pair{{Re: sign * most / 64, Im: -sign}}, 64)
		im := slices.Repeat([]api.Pair{{Re: -sign, Im: sign * most / 64}}, 64)
		wantSum(t, re, pairOf(sign*most, -64*sign))
		wantSum(t, im, pairOf(-64*sign, sign*most))
		wantSumRefused(t, append(slices.Clone(re), pairOf(sign, 0)))
		wantSumRefused(t, append(slices.Clone(im), pairOf(0, sign)))
		wantSum(t, append(slices.Clone(re), pairOf(-sign, sign)), pairOf(sign*(most-1), -63*sign))
		wantSumRefused(t, append([]api.Pair{{Re: sign}}, re...))
		wantSumRefused(t, append([]api.Pair{{Im: sign}}, im...))
	}
}

// A row that goes beyond a limit is refused, though it would come back; the same
// pairs in another row, which stays within, are not.
func TestSumRefusesARowThatWouldComeBack(t *testing.T) {
	for _, sign := range []int{-1, 1} {
		for _, step := range []int{1, most} {
			re := []api.Pair{{Re: sign * most}, {Re: sign * step}, {Re: -sign * step}}
			im := []api.Pair{{Im: sign * most}, {Im: sign * step}, {Im: -sign * step}}
			wantSumRefused(t, re)
			wantSumRefused(t, im)
			wantSum(t, []api.Pair{re[0], re[2], re[1]}, pairOf(sign*most, 0))
			wantSum(t, []api.Pair{im[0], im[2], im[1]}, pairOf(0, sign*most))
		}
	}
	wantSumRefused(t, []api.Pair{{Re: 3}, {Re: most - 2}, {Re: -most}, {Im: 9}})
}

// A wrong part at the head, in the middle and at the end of rows of each length.
func TestSumRefusesAWrongPartAnywhere(t *testing.T) {
	for length := 1; length <= 7; length++ {
		for place := range length {
			for _, x := range far {
				ps := slices.Repeat([]api.Pair{{Re: 2, Im: -3}}, length)
				ps[place] = pairOf(x, 0)
				wantSumRefused(t, ps)
				ps[place] = pairOf(0, x)
				wantSumRefused(t, ps)
			}
		}
	}
	// The one part would bring the other one back.
	for _, sign := range []int{-1, 1} {
		wantSumRefused(t, []api.Pair{{Re: -sign}, {Re: sign * (most + 1)}})
		wantSumRefused(t, []api.Pair{{Re: sign * (most + 1)}, {Re: -sign}})
		wantSumRefused(t, []api.Pair{{Im: -sign}, {Im: sign * (most + 1)}})
		wantSumRefused(t, []api.Pair{{Im: sign * (most + 1)}, {Im: -sign}})
	}
}

func TestSumLeavesTheSpareRoomOut(t *testing.T) {
	long := []api.Pair{{Re: 1, Im: 2}, {Re: 3, Im: 4}, {Re: 5, Im: 6}, {Re: most + 1}}
	wantSum(t, long[:2], pairOf(4, 6))
	wantSum(t, long[:0], pairOf(0, 0))
	wantSum(t, long[1:3], pairOf(8, 10))
}

// P6.1, Text.

func TestTextOfRealPairs(t *testing.T) {
	wantText(t, 0, 0, "0")
	wantText(t, 5, 0, "5")
	wantText(t, -7, 0, "-7")
	wantText(t, 10, 0, "10")
	wantText(t, -120, 0, "-120")
	wantText(t, most, 0, "4503599627370496")
	wantText(t, -most, 0, "-4503599627370496")
}

func TestTextOfImaginaryPairs(t *testing.T) {
	wantText(t, 0, 1, "0+1i")
	wantText(t, 0, -1, "0-1i")
	wantText(t, 0, 12, "0+12i")
	wantText(t, 0, -120, "0-120i")
	wantText(t, 0, most, "0+4503599627370496i")
	wantText(t, 0, -most, "0-4503599627370496i")
}

func TestTextOfBothParts(t *testing.T) {
	wantText(t, 3, 4, "3+4i")
	wantText(t, 3, -4, "3-4i")
	wantText(t, -3, 4, "-3+4i")
	wantText(t, -3, -4, "-3-4i")
	wantText(t, 1, 1, "1+1i")
	wantText(t, 1, -1, "1-1i")
	wantText(t, -1, 1, "-1+1i")
	wantText(t, -1, -1, "-1-1i")
	wantText(t, 100, 1000000, "100+1000000i")
}

func TestTextOfTheLimits(t *testing.T) {
	wantText(t, most, most, "4503599627370496+4503599627370496i")
	wantText(t, most, -most, "4503599627370496-4503599627370496i")
	wantText(t, -most, most, "-4503599627370496+4503599627370496i")
	wantText(t, -most, -most, "-4503599627370496-4503599627370496i")
	wantText(t, most-1, 1-most, "4503599627370495-4503599627370495i")
}

// Text answers no error: parts beyond the limits have their digits too.
func TestTextOfPartsBeyondTheLimits(t *testing.T) {
	wantText(t, most+1, 0, "4503599627370497")
	wantText(t, -most-1, most+1, "-4503599627370497+4503599627370497i")
	wantText(t, 1<<53+1, -1<<53-1, "9007199254740993-9007199254740993i")
	wantText(t, math.MaxInt, math.MaxInt, "9223372036854775807+9223372036854775807i")
	wantText(t, math.MinInt, math.MinInt, "-9223372036854775808-9223372036854775808i")
	wantText(t, 0, math.MinInt, "0-9223372036854775808i")
}

// Each text against one that is put together digit by digit.
func TestTextOfAllSmallPairs(t *testing.T) {
	for re := -30; re <= 30; re++ {
		for im := -30; im <= 30; im++ {
			wantText(t, re, im, digits(re)+imaginary(im))
		}
	}
}

// digits tells a number of at most two digits.
func digits(x int) string {
	if x < 0 {
		return "-" + digits(-x)
	}
	if x < 10 {
		return "0123456789"[x : x+1]
	}
	return digits(x/10) + digits(x%10)
}

func imaginary(x int) string {
	switch {
	case x > 0:
		return "+" + digits(x) + "i"
	case x < 0:
		return digits(x) + "i"
	}
	return ""
}

// R4: a row is as it was behind a call, its spare room too, whether it was refused
// or not.
func TestSumLeavesItsArgument(t *testing.T) {
	mark := pairOf(77, -77)
	rows := [][]api.Pair{
		{},
		{{Re: 1, Im: 2}},
		{{Re: 1, Im: 2}, {Re: -3, Im: 4}, {Re: 5, Im: -6}},
		{{Re: most}, {Re: 1}, {Re: -1}},
		{{Re: 1}, {Re: most + 1}, {Im: 2}},
		{{Re: math.MinInt, Im: math.MaxInt}, {Re: 2}},
	}
	for _, row := range rows {
		room := append(slices.Clone(row), mark, mark)
		Sum(room[:len(row)])
		if !slices.Equal(room, append(slices.Clone(row), mark, mark)) {
			t.Errorf("R4: Sum(%v) left %v", row, room)
		}
	}
}

// R5: the same arguments, the same answers, whatever was asked in between.
func TestSecondCallsAnswerAlike(t *testing.T) {
	ps := []api.Pair{{Re: 1, Im: 2}, {Re: 30, Im: -40}}
	for range 3 {
		wantSum(t, ps, pairOf(31, -38))
		wantSumRefused(t, []api.Pair{{Re: most}, {Re: most}})
		wantAddRefused(t, pairOf(most+1, 0), pairOf(0, 0))
		wantAdd(t, pairOf(1, 2), pairOf(30, -40), pairOf(31, -38))
		wantText(t, 31, -38, "31-38i")
	}
}

// R5: plain functions may be called from several goroutines at one time, over one
// row.
func TestSeveralGoroutines(t *testing.T) {
	ps := []api.Pair{{Re: 1, Im: 2}, {Re: 30, Im: -40}, {Re: most / 2, Im: -most / 2}}
	var all sync.WaitGroup
	for range 8 {
		all.Go(func() {
			for range 500 {
				wantSum(t, ps, pairOf(most/2+31, -most/2-38))
				wantAdd(t, ps[0], ps[1], pairOf(31, -38))
				wantText(t, 31, -38, "31-38i")
			}
		})
	}
	all.Wait()
}

// Sums and texts against whole numbers, over parts of the fuzzer's own.
func FuzzAdd(f *testing.F) {
	f.Add(0, 0, 0, 0)
	f.Add(most, -most, 1, -1)
	f.Add(math.MinInt, 0, math.MaxInt, -1)
	f.Fuzz(func(t *testing.T, re, im, re2, im2 int) {
		a, b := pairOf(re, im), pairOf(re2, im2)
		out := false
		for _, x := range []int{re, im, re2, im2} {
			out = out || x < -most || x > most
		}
		// Where all parts may be, the sums stay far within what an int holds.
		want := pairOf(re+re2, im+im2)
		if out || max(want.Re, want.Im) > most || min(want.Re, want.Im) < -most {
			wantAddRefused(t, a, b)
			wantSumRefused(t, []api.Pair{a, b})
		} else {
			wantAdd(t, a, b, want)
			wantSum(t, []api.Pair{a, b}, want)
		}
		if text := Text(a); strings.HasSuffix(text, "i") != (im != 0) {
			t.Errorf("P6.1: Text(%v) = %q", a, text)
		}
	})
}
