package name

import (
	"strings"
	"sync"
	"testing"

	"tattle/api"
)

// letters and digits are written out, so that the tests do not hang on the classes
// that the package makes of them.
const (
	letters = "ABCDEFGHIJKLMNOPQRSTUVWXYZabcdefghijklmnopqrstuvwxyz"
	digits  = "0123456789"
)

func wantMay(t *testing.T, s string, want bool) {
	t.Helper()
	if got := May(s); got != want {
		t.Errorf("P11.1: May(%q) = %v, want %v", s, got, want)
	}
}

func TestLimitIsTheDocuments(t *testing.T) {
	if api.MaxName != 32 {
		t.Fatalf("MaxName %d", api.MaxName)
	}
}

func TestMayOfOrdinaryNames(t *testing.T) {
	for _, s := range []string{"Tea", "tea", "f_1", "_", "__", "___9", "_Tea", "T", "a1b2", "x_", "Z9_z0_A"} {
		wantMay(t, s, true)
	}
}

// Each byte as a name's first one, and behind the first one at each place.
func TestMayOfEachByte(t *testing.T) {
	for b := range 256 {
		s := string([]byte{byte(b)})
		first := strings.Contains(letters+"_", s)
		later := strings.Contains(letters+"_"+digits, s)
		wantMay(t, s, first)
		wantMay(t, s+"a", first)
		wantMay(t, s+"9", first)
		wantMay(t, s+strings.Repeat("_", 31), first)
		wantMay(t, "a"+s, later)
		wantMay(t, "_"+s, later)
		wantMay(t, "a"+s+"b", later)
		wantMay(t, strings.Repeat("Q", 31)+s, later)
	}
}

func TestMayOfEachLength(t *testing.T) {
	wantMay(t, "", false)
	for n := 1; n < 70; n++ {
		for _, s := range []string{"n", "_", "Z"} {
			wantMay(t, strings.Repeat(s, n), n <= 32)
		}
		wantMay(t, "a"+strings.Repeat("0", n-1), n <= 32)
		wantMay(t, strings.Repeat("0", n), false)
	}
	wantMay(t, strings.Repeat("n", 1<<20), false)
	wantMay(t, strings.Repeat("n", 256+1), false)
}

// Letters of other tongues are none: neither one that would be a letter as a rune, nor
// one whose last byte looks right once the upper bits are gone.
func TestMayOfOtherLetters(t *testing.T) {
	for _, s := range []string{"\u00e9", "a\u00e9", "\u00df", "\u03a9", "a\u03a9b", "\u044f", "\u0141", "\u0161", "\uff41", "a\uff11", "\xc3", "a\xe9", "\u0663", "a\u0663", "\u212a", "\u017f"} {
		wantMay(t, s, false)
	}
}

func TestMayOfOtherTexts(t *testing.T) {
	for _, s := range []string{" a", "a ", "a b", "a-b", "a.b", "a\n", "\x00", "a\x00", "\"a\"", "$a", "@a", "a:", "a\xff", "1a", "9", "0_", "-1"} {
		wantMay(t, s, false)
	}
}

// R5: plain functions may be called from several goroutines at one time.
func TestSeveralGoroutines(t *testing.T) {
	var all sync.WaitGroup
	for range 8 {
		all.Go(func() {
			for range 500 {
				wantMay(t, "Tea_1", true)
				wantMay(t, "1_Tea", false)
			}
		})
	}
	all.Wait()
}
