package frame

import (
	"hash/adler32"
	"math"
	"runtime"
	"strings"
	"sync"
	"testing"

	"tattle/api"
	"tattle/varint"
)

// known are bodies with their sums and frames, worked out by hand.
var known = []struct {
	body  string
	sum   int
	frame string
}{
	{"", 1, "\x00\x00\x00\x00\x01"},
	{"\x00", 0x00010001, "\x01\x00\x01\x00\x01\x00"},
	{"\x01", 0x00020002, "\x01\x00\x02\x00\x02\x01"},
	{"a", 0x00620062, "\x01\x00\x62\x00\x62a"},
	{"ab", 0x012600c4, "\x02\x01\x26\x00\xc4ab"},
	{"ba", 0x012700c4, "\x02\x01\x27\x00\xc4ba"},
	{"Wikipedia", 0x11e60398, "\x09\x11\xe6\x03\x98Wikipedia"},
	{"\xff\xff", 0x02ff01ff, "\x02\x02\xff\x01\xff\xff\xff"},
}

// forge tells a frame of any body, even of one that Put refuses.
func forge(t *testing.T, body string) string {
	t.Helper()
	length, err := varint.Put(len(body))
	if err != api.OK {
		t.Fatalf("varint.Put(%d): %d", len(body), err)
	}
	sum := adler32.Checksum([]byte(body))
	return length + string([]byte{byte(sum >> 24), byte(sum >> 16), byte(sum >> 8), byte(sum)}) + body
}

// mixed is a row of n bytes of many kinds.
func mixed(n int) string {
	out := make([]byte, n)
	for i := range out {
		out[i] = byte(i*i*7 + i>>8 + 3)
	}
	return string(out)
}

// clip keeps what a failing test tells short.
func clip(s string) string {
	if len(s) > 40 {
		return s[:40]
	}
	return s
}

func wantFrame(t *testing.T, s string, at int, body string, end int) {
	t.Helper()
	got, gotEnd, err := Get(s, at)
	if got != body || gotEnd != end || err != api.OK {
		t.Errorf("Get(%q, %d) = %q, %d, %d; want %q, %d", clip(s), at, clip(got), gotEnd, err, clip(body), end)
	}
}

func wantNone(t *testing.T, s string, at int) {
	t.Helper()
	if got, end, err := Get(s, at); got != "" || end != 0 || err != api.ErrFrameForm {
		t.Errorf("Get(%q, %d) = %q, %d, %d; want ErrFrameForm", clip(s), at, clip(got), end, err)
	}
}

// P2.1: Sum.

func TestSumOfKnownTexts(t *testing.T) {
	for _, k := range known {
		if got := Sum(k.body); got != k.sum {
			t.Errorf("Sum(%q) = %#x; want %#x", k.body, got, k.sum)
		}
	}
}

// Of n bytes of 255, a is 1 + 255 n, b is n + 255 n (n+1) / 2, modulo 65,521:
// b passes it first with the 23rd byte, a with the 257th.
func TestSumWhereTheSumsPassTheModulus(t *testing.T) {
	for _, c := range []struct{ n, a, b int }{
		{22, 5611, 64537},
		{23, 5866, 4882},
		{256, 65281, 2048},
		{257, 15, 2063},
	} {
		if got := Sum(strings.Repeat("\xff", c.n)); got != c.b*65536+c.a {
			t.Errorf("Sum of %d bytes of 255: %d and %d; want %d and %d", c.n, got/65536, got%65536, c.b, c.a)
		}
	}
	// 273 bytes of 240 are 65,520: with the 1 at the start just the modulus.
	just := strings.Repeat("\xf0", 272)
	for _, c := range []struct {
		last string
		a    int
	}{{"\xef", 65520}, {"\xf0", 0}, {"\xf1", 1}} {
		if got := Sum(just+c.last) % 65536; got != c.a {
			t.Errorf("Sum: a is %d; want %d", got, c.a)
		}
	}
}

func TestSumOfZeroBytesAndLongTexts(t *testing.T) {
	for _, n := range []int{1, 65520, 65521, 65522} {
		if got, want := Sum(strings.Repeat("\x00", n)), n%65521*65536+1; got != want {
			t.Errorf("Sum of %d bytes of 0 = %d; want %d", n, got, want)
		}
	}
	for _, n := range []int{1, 2, 255, 256, 257, 5551, 5552, 5553, 32768, 100000, 1 << 20} {
		for _, s := range []string{mixed(n), strings.Repeat("\xff", n), strings.Repeat("\x80", n)} {
			if got, want := Sum(s), int(adler32.Checksum([]byte(s))); got != want {
				t.Errorf("Sum of %d bytes, %q = %d; want %d", n, clip(s), got, want)
			}
		}
	}
}

// P2.2: Put.

func TestPutTellsLengthSumAndBody(t *testing.T) {
	for _, k := range known {
		if s, err := Put(k.body); s != k.frame || err != api.OK {
			t.Errorf("Put(%q) = %q, %d; want %q", k.body, s, err, k.frame)
		}
	}
	for _, n := range []int{126, 127, 128, 129, 16383, 16384, api.MaxFrame - 1, api.MaxFrame} {
		body := mixed(n)
		if s, err := Put(body); s != forge(t, body) || err != api.OK {
			t.Errorf("Put of %d bytes = %q, %d", n, clip(s), err)
		}
	}
}

func TestPutRefusesLongBodies(t *testing.T) {
	for _, n := range []int{api.MaxFrame + 1, api.MaxFrame + 2, 2 * api.MaxFrame, 1 << 20} {
		if s, err := Put(mixed(n)); s != "" || err != api.ErrFrameForm {
			t.Errorf("Put of %d bytes = %q, %d; want ErrFrameForm", n, clip(s), err)
		}
	}
}

// P2.2: Get.

func TestGetReadsWhatPutTold(t *testing.T) {
	for _, k := range known {
		wantFrame(t, k.frame, 0, k.body, len(k.frame))
		wantFrame(t, "\xff\x00"+k.frame+"\x00\x80", 2, k.body, 2+len(k.frame))
	}
	for _, n := range []int{1, 127, 128, 5000, 16384, api.MaxFrame - 1, api.MaxFrame} {
		body := mixed(n)
		s, _ := Put(body)
		wantFrame(t, s, 0, body, len(s))
		wantFrame(t, "ab"+s+"c", 2, body, 2+len(s))
	}
}

func TestGetReadsFramesOneBehindTheOther(t *testing.T) {
	row := ""
	for _, k := range known {
		row += k.frame
	}
	at := 0
	for _, k := range known {
		wantFrame(t, row, at, k.body, at+len(k.frame))
		at += len(k.frame)
	}
	wantNone(t, row, at)
}

func TestGetAsksForItsPlace(t *testing.T) {
	s := known[0].frame
	wantFrame(t, s, 0, "", len(s))
	for at := 1; at <= len(s)+2; at++ {
		wantNone(t, s, at)
	}
	for _, at := range []int{-1, -5, math.MinInt, math.MaxInt - 4, math.MaxInt} {
		wantNone(t, s, at)
		wantNone(t, "", at)
	}
	wantNone(t, "", 0)
	wantNone(t, "", 1)
}

func TestGetOfFramesThatAreCut(t *testing.T) {
	for _, body := range []string{"", "a", "Wikipedia", mixed(127), mixed(128), mixed(300)} {
		s := forge(t, body)
		for n := range len(s) {
			wantNone(t, s[:n], 0)
			wantNone(t, "ab"+s[:n], 2)
		}
	}
	whole := forge(t, mixed(api.MaxFrame))
	wantNone(t, whole[:len(whole)-1], 0)
	wantNone(t, whole[:7], 0)
	wantNone(t, whole[:3], 0)
}

func TestGetOfFramesWithAnotherSum(t *testing.T) {
	for _, body := range []string{"", "a", "Wikipedia", mixed(200)} {
		s := forge(t, body)
		for i := len(s) - len(body) - 4; i < len(s); i++ {
			for bit := range 8 {
				b := []byte(s)
				b[i] ^= 1 << bit
				wantNone(t, string(b), 0)
			}
		}
	}
	wantNone(t, "\x02\x01\x26\x00\xc4ba", 0)
	wantNone(t, "\x01\x62\x00\x62\x00a", 0)
}

// The number of a sum is below its modulus twice; the same sums beyond it are none.
func TestGetOfSumsBeyondTheModulus(t *testing.T) {
	wantFrame(t, "\x00\x00\x00\x00\x01", 0, "", 5)
	wantNone(t, "\x00\x00\x00\xff\xf2", 0)
	wantNone(t, "\x00\xff\xf1\x00\x01", 0)
}

func TestGetOfLengthsAboveMaxFrame(t *testing.T) {
	for _, n := range []int{api.MaxFrame + 1, api.MaxFrame + 2, 65536, 100000} {
		s := forge(t, mixed(n))
		wantNone(t, s, 0)
		wantNone(t, "ab"+s+"c", 2)
	}
	for _, n := range []int{1 << 31, 1 << 32, math.MaxInt - 9, math.MaxInt - 4, math.MaxInt} {
		length, _ := varint.Put(n)
		wantNone(t, length, 0)
		wantNone(t, length+"\x00\x00\x00\x01", 0)
		wantNone(t, length+"\x00\x00\x00\x01abc", 0)
	}
}

func TestGetOfLengthsThatAreNoNumbers(t *testing.T) {
	wantNone(t, "\x80\x00\x00\x00\x00\x01", 0)
	wantNone(t, "\x81\x00\x00\x62\x00\x62a", 0)
	wantNone(t, strings.Repeat("\x80", 9)+"\x00\x00\x00\x01", 0)
	wantNone(t, strings.Repeat("\xff", 30), 0)
	wantNone(t, "\x80", 0)
}

// R4: a body that is read has memory of its own, so each call has to take as much.

var kept string

func TestBodiesShareNoMemory(t *testing.T) {
	s, _ := Put(mixed(20000))
	var before, after runtime.MemStats
	runtime.ReadMemStats(&before)
	for range 100 {
		kept, _, _ = Get(s, 0)
	}
	runtime.ReadMemStats(&after)
	if after.TotalAlloc-before.TotalAlloc < 100*20000 {
		t.Errorf("Get answers a piece of its argument")
	}
}

// R5: plain functions may be called from several goroutines at one time.
func TestCallsFromSeveralGoroutines(t *testing.T) {
	var all sync.WaitGroup
	for g := range 8 {
		all.Add(1)
		go func() {
			defer all.Done()
			for i := range 200 {
				body := mixed(i*8 + g)
				s, _ := Put(body)
				if got, end, err := Get(s, 0); got != body || end != len(s) || err != api.OK {
					t.Errorf("%d: %d, %d", i, end, err)
				}
			}
		}()
	}
	all.Wait()
}

// R1, R2 and the words of P2.2, of whatever bytes and places come: what Get
// takes is just what Put tells.
func FuzzGet(f *testing.F) {
	for _, k := range known {
		f.Add(k.frame, 0)
	}
	f.Add("ab"+known[3].frame+"c", 2)
	f.Add(strings.Repeat("\xff", 12), 1)
	f.Fuzz(func(t *testing.T, s string, at int) {
		body, end, err := Get(s, at)
		if err != api.OK {
			if body != "" || end != 0 || err != api.ErrFrameForm {
				t.Fatalf("Get: %q, %d beside %d", body, end, err)
			}
			return
		}
		if back, e := Put(body); e != api.OK || back != s[at:end] {
			t.Fatalf("Get: %q is %q, not %q", body, back, s[at:end])
		}
	})
}
