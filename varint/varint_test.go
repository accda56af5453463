package varint

import (
	"math"
	"strings"
	"sync"
	"testing"

	"tattle/api"
)

// known are numbers with their bytes, written out by hand.
var known = []struct {
	x int
	s string
}{
	{0, "\x00"},
	{1, "\x01"},
	{127, "\x7f"},
	{128, "\x80\x01"},
	{129, "\x81\x01"},
	{300, "\xac\x02"},
	{16383, "\xff\x7f"},
	{16384, "\x80\x80\x01"},
	{65536, "\x80\x80\x04"},
	{1<<56 - 1, "\xff\xff\xff\xff\xff\xff\xff\x7f"},
	{1 << 56, "\x80\x80\x80\x80\x80\x80\x80\x80\x01"},
	{math.MaxInt, "\xff\xff\xff\xff\xff\xff\xff\xff\x7f"},
}

func wantNumber(t *testing.T, s string, at int, x int, end int, err api.Errno) {
	t.Helper()
	gotX, gotEnd, gotErr := Get(s, at)
	if gotX != x || gotEnd != end || gotErr != err {
		t.Errorf("Get(%q, %d) = %d, %d, %d; want %d, %d, %d", clip(s), at, gotX, gotEnd, gotErr, x, end, err)
	}
}

func wantText(t *testing.T, s string, at int, text string, end int, err api.Errno) {
	t.Helper()
	gotText, gotEnd, gotErr := GetText(s, at)
	if gotText != text || gotEnd != end || gotErr != err {
		t.Errorf("GetText(%q, %d) = %q, %d, %d; want %q, %d, %d", clip(s), at, clip(gotText), gotEnd, gotErr, clip(text), end, err)
	}
}

// clip keeps what a failing test tells short.
func clip(s string) string {
	if len(s) > 40 {
		return s[:40]
	}
	return s
}

// P1.1: Put.

func TestPutTellsSevenBitsAByteLowestFirst(t *testing.T) {
	for _, k := range known {
		if s, err := Put(k.x); s != k.s || err != api.OK {
			t.Errorf("Put(%d) = %q, %d; want %q", k.x, s, err, k.s)
		}
	}
}

func TestPutRefusesNumbersBelowZero(t *testing.T) {
	for _, x := range []int{-1, -2, -127, -128, -129, -(1 << 56), math.MinInt + 1, math.MinInt} {
		if s, err := Put(x); s != "" || err != api.ErrVarintForm {
			t.Errorf("Put(%d) = %q, %d; want ErrVarintForm", x, s, err)
		}
	}
}

func TestPutTellsAsFewBytesAsMayBe(t *testing.T) {
	for length := 1; length <= 9; length++ {
		least, greatest := 0, math.MaxInt
		if length > 1 {
			least = 1 << (7 * (length - 1))
		}
		if length < 9 {
			greatest = 1<<(7*length) - 1
		}
		for _, x := range []int{least, greatest} {
			if s, err := Put(x); len(s) != length || err != api.OK {
				t.Errorf("Put(%d) = %q, %d; want %d bytes", x, s, err, length)
			}
		}
	}
}

// P1.1: Get.

func TestGetReadsWhatPutTold(t *testing.T) {
	for _, k := range known {
		wantNumber(t, k.s, 0, k.x, len(k.s), api.OK)
		wantNumber(t, "\xff\x00"+k.s+"\x00\x80", 2, k.x, 2+len(k.s), api.OK)
	}
}

func TestThereAndBackAroundEachPowerOfTwo(t *testing.T) {
	for shift := range 63 {
		for _, x := range []int{1<<shift - 1, 1 << shift, 1<<shift | 1, math.MaxInt >> shift} {
			s, err := Put(x)
			if err != api.OK {
				t.Fatalf("Put(%d): %d", x, err)
			}
			wantNumber(t, s, 0, x, len(s), api.OK)
			wantNumber(t, "ab"+s+"\x7f", 2, x, 2+len(s), api.OK)
		}
	}
}

func TestGetReadsNumbersOneBehindTheOther(t *testing.T) {
	row := ""
	for _, k := range known {
		row += k.s
	}
	at := 0
	for _, k := range known {
		wantNumber(t, row, at, k.x, at+len(k.s), api.OK)
		at += len(k.s)
	}
	wantNumber(t, row, at, 0, 0, api.ErrVarintCut)
}

func TestGetAsksForItsPlace(t *testing.T) {
	wantNumber(t, "a", 0, 'a', 1, api.OK)
	wantNumber(t, "a", 1, 0, 0, api.ErrVarintCut)
	wantNumber(t, "", 0, 0, 0, api.ErrVarintCut)
	for _, at := range []int{-1, -9, math.MinInt, 2, 3, math.MaxInt - 1, math.MaxInt} {
		wantNumber(t, "a", at, 0, 0, api.ErrVarintForm)
	}
	wantNumber(t, "", 1, 0, 0, api.ErrVarintForm)
	wantNumber(t, "", -1, 0, 0, api.ErrVarintForm)
}

func TestGetOfNumbersThatAreCut(t *testing.T) {
	for _, k := range known {
		for n := range len(k.s) {
			wantNumber(t, k.s[:n], 0, 0, 0, api.ErrVarintCut)
			wantNumber(t, "\x01"+k.s[:n], 1, 0, 0, api.ErrVarintCut)
		}
	}
	for n := range 9 {
		wantNumber(t, strings.Repeat("\x80", n), 0, 0, 0, api.ErrVarintCut)
		wantNumber(t, strings.Repeat("\xff", n), 0, 0, 0, api.ErrVarintCut)
	}
}

func TestGetOfNumbersThatAreTooLong(t *testing.T) {
	for _, b := range []string{"\x80", "\x81", "\xff"} {
		for n := 9; n < 14; n++ {
			long := strings.Repeat(b, n)
			for _, tail := range []string{"", "\x00", "\x01", "\x7f"} {
				wantNumber(t, long+tail, 0, 0, 0, api.ErrVarintForm)
			}
			wantNumber(t, "\x00"+long, 1, 0, 0, api.ErrVarintForm)
		}
	}
}

func TestGetOfNumbersLongerThanNeedBe(t *testing.T) {
	for n := 1; n <= 8; n++ {
		for _, b := range []string{"\x80", "\x81", "\xff"} {
			wantNumber(t, strings.Repeat(b, n)+"\x00", 0, 0, 0, api.ErrVarintForm)
			wantNumber(t, "z"+strings.Repeat(b, n)+"\x00z", 1, 0, 0, api.ErrVarintForm)
		}
	}
}

// What Get takes is just what Put tells: no number has two forms.
func TestGetTakesNoOtherFormThanPuts(t *testing.T) {
	for n := range 1 << 16 {
		s := string([]byte{byte(n >> 8), byte(n)})
		x, end, err := Get(s, 0)
		if err != api.OK {
			if x != 0 || end != 0 {
				t.Fatalf("Get(%q) = %d, %d beside the error %d", s, x, end, err)
			}
			continue
		}
		if back, _ := Put(x); back != s[:end] {
			t.Fatalf("Get(%q) = %d, which Put tells as %q", s, x, back)
		}
	}
}

// P1.2: PutText.

func TestPutTextTellsLengthThenBytes(t *testing.T) {
	for _, c := range []struct{ text, want string }{
		{"", "\x00"},
		{"a", "\x01a"},
		{"\x00\xff\n", "\x03\x00\xff\n"},
		{"ä", "\x02\xc3\xa4"},
		{strings.Repeat("y", 127), "\x7f" + strings.Repeat("y", 127)},
		{strings.Repeat("y", 128), "\x80\x01" + strings.Repeat("y", 128)},
		{strings.Repeat("y", api.MaxText-1), "\xff\xff\x03" + strings.Repeat("y", api.MaxText-1)},
		{strings.Repeat("y", api.MaxText), "\x80\x80\x04" + strings.Repeat("y", api.MaxText)},
	} {
		if s, err := PutText(c.text); s != c.want || err != api.OK {
			t.Errorf("PutText of %d bytes = %q, %d", len(c.text), clip(s), err)
		}
		wantText(t, c.want, 0, c.text, len(c.want), api.OK)
		wantText(t, "\x80\x80"+c.want+"\x80", 2, c.text, 2+len(c.want), api.OK)
	}
}

func TestPutTextRefusesLongTexts(t *testing.T) {
	for _, n := range []int{api.MaxText + 1, api.MaxText + 2, 2 * api.MaxText, 1 << 20} {
		if s, err := PutText(strings.Repeat("y", n)); s != "" || err != api.ErrVarintForm {
			t.Errorf("PutText of %d bytes = %q, %d; want ErrVarintForm", n, clip(s), err)
		}
	}
}

// P1.2: GetText.

func TestGetTextReadsTextsOneBehindTheOther(t *testing.T) {
	texts := []string{"one", "", strings.Repeat("\xff", 200), "\x00", "end"}
	row := ""
	for _, text := range texts {
		s, _ := PutText(text)
		row += s
	}
	at := 0
	for _, text := range texts {
		s, _ := PutText(text)
		wantText(t, row, at, text, at+len(s), api.OK)
		at += len(s)
	}
	wantText(t, row, at, "", 0, api.ErrVarintCut)
}

func TestGetTextTellsGetsErrors(t *testing.T) {
	for _, at := range []int{-1, math.MinInt, 3, math.MaxInt} {
		wantText(t, "\x01a", at, "", 0, api.ErrVarintForm)
	}
	wantText(t, "\x01a", 2, "", 0, api.ErrVarintCut)
	wantText(t, "", 0, "", 0, api.ErrVarintCut)
	wantText(t, "\x80", 0, "", 0, api.ErrVarintCut)
	wantText(t, "\x81\x00a", 0, "", 0, api.ErrVarintForm)
	wantText(t, "\x80\x00", 0, "", 0, api.ErrVarintForm)
	wantText(t, strings.Repeat("\x80", 8), 0, "", 0, api.ErrVarintCut)
	wantText(t, strings.Repeat("\x80", 9)+"a", 0, "", 0, api.ErrVarintForm)
}

func TestGetTextOfLengthsAboveMaxText(t *testing.T) {
	for _, n := range []int{api.MaxText + 1, api.MaxText + 2, 1 << 32, math.MaxInt - 9, math.MaxInt} {
		head, _ := Put(n)
		wantText(t, head, 0, "", 0, api.ErrVarintForm)
		wantText(t, head+"abc", 0, "", 0, api.ErrVarintForm)
		wantText(t, "abc"+head, 3, "", 0, api.ErrVarintForm)
	}
	head, _ := Put(api.MaxText + 1)
	wantText(t, head+strings.Repeat("y", api.MaxText+1), 0, "", 0, api.ErrVarintForm)
}

func TestGetTextOfTextsThatAreCut(t *testing.T) {
	for _, n := range []int{1, 2, 127, 128, 300} {
		s, _ := PutText(strings.Repeat("y", n))
		for k := range len(s) {
			wantText(t, s[:k], 0, "", 0, api.ErrVarintCut)
		}
	}
	whole, _ := PutText(strings.Repeat("y", api.MaxText))
	wantText(t, whole[:len(whole)-1], 0, "", 0, api.ErrVarintCut)
	wantText(t, whole[:3], 0, "", 0, api.ErrVarintCut)
}

// R4: a text that is read has memory of its own, so each call has to take some.

var kept string

func TestTextsShareNoMemory(t *testing.T) {
	s, _ := PutText(strings.Repeat("y", 1000))
	if n := testing.AllocsPerRun(100, func() { kept, _, _ = GetText(s, 0) }); n < 1 {
		t.Errorf("GetText answers a piece of its argument")
	}
	if n := testing.AllocsPerRun(100, func() { kept, _ = PutText(s) }); n < 1 {
		t.Errorf("PutText answers memory of its argument")
	}
}

// R5: plain functions may be called from several goroutines at one time.
func TestCallsFromSeveralGoroutines(t *testing.T) {
	var all sync.WaitGroup
	for g := range 8 {
		all.Add(1)
		go func() {
			defer all.Done()
			for i := range 500 {
				x := i*8 + g
				s, _ := Put(x)
				if got, _, err := Get(s, 0); got != x || err != api.OK {
					t.Errorf("%d: %d, %d", x, got, err)
				}
			}
		}()
	}
	all.Wait()
}

// R1, R2 and the words of P1.1 and P1.2, of whatever bytes and places come.
func FuzzGet(f *testing.F) {
	for _, k := range known {
		f.Add(k.s, 0)
	}
	f.Add(strings.Repeat("\xff", 12), 1)
	f.Add("\x03abc", 0)
	f.Fuzz(func(t *testing.T, s string, at int) {
		x, end, err := Get(s, at)
		if err != api.OK && (x != 0 || end != 0) {
			t.Fatalf("Get: %d, %d beside %d", x, end, err)
		}
		if err == api.OK {
			if back, e := Put(x); e != api.OK || back != s[at:end] {
				t.Fatalf("Get: %d is %q, not %q", x, back, s[at:end])
			}
		}
		text, end, err := GetText(s, at)
		if err != api.OK && (text != "" || end != 0) {
			t.Fatalf("GetText: %q, %d beside %d", text, end, err)
		}
		if err == api.OK {
			if back, e := PutText(text); e != api.OK || back != s[at:end] {
				t.Fatalf("GetText: %q is %q, not %q", text, back, s[at:end])
			}
		}
	})
}
