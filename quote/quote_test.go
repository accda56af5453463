package quote

import (
	"fmt"
	"strconv"
	"strings"
	"sync"
	"testing"
)

func wantText(t *testing.T, s, want string) {
	t.Helper()
	if got := Text(s); got != want {
		t.Errorf("P12.3: Text(%q) = %s, want %s", s, got, want)
	}
}

func TestTextOfOrdinaryTexts(t *testing.T) {
	wantText(t, "", `""`)
	wantText(t, "tea", `"tea"`)
	wantText(t, " ", `" "`)
	wantText(t, "~", `"~"`)
	wantText(t, "a b,c{}:[]/'`", "\"a b,c{}:[]/'`\"")
	wantText(t, "0123456789ABCDEFGHIJ", `"0123456789ABCDEFGHIJ"`)
	wantText(t, "null", `"null"`)
}

func TestTextOfQuotesAndBackslashes(t *testing.T) {
	wantText(t, `"`, `"\""`)
	wantText(t, `\`, `"\\"`)
	wantText(t, `""`, `"\"\""`)
	wantText(t, `\\`, `"\\\\"`)
	wantText(t, `\"`, `"\\\""`)
	wantText(t, `"\`, `"\"\\"`)
	wantText(t, `a"b\c`, `"a\"b\\c"`)
	wantText(t, `\u00ff`, `"\\u00ff"`)
	wantText(t, `\n`, `"\\n"`)
}

// Bytes that are told in digits, at the ends of what is.
func TestTextOfDigits(t *testing.T) {
	wantText(t, "\x00", `"\u0000"`)
	wantText(t, "\x01", `"\u0001"`)
	wantText(t, "\x09", `"\u0009"`)
	wantText(t, "\x0a", `"\u000a"`)
	wantText(t, "\r", `"\u000d"`)
	wantText(t, "\x10", `"\u0010"`)
	wantText(t, "\x1f", `"\u001f"`)
	wantText(t, "\x7f", `"\u007f"`)
	wantText(t, "\x80", `"\u0080"`)
	wantText(t, "\xab", `"\u00ab"`)
	wantText(t, "\xba", `"\u00ba"`)
	wantText(t, "\xff", `"\u00ff"`)
	wantText(t, "\x00\xff\x00", `"\u0000\u00ff\u0000"`)
	wantText(t, "a\nb", `"a\u000ab"`)
}

// told is what b is within quotes, by the chapter's words.
func told(b int) string {
	if b == 34 || b == 92 {
		return "\\" + string(rune(b))
	}
	if b < 32 || b >= 127 {
		return fmt.Sprintf("\\u00%02x", b)
	}
	return string(rune(b))
}

// Each byte by itself, and each pair of bytes: none changes how another one is told.
func TestTextOfEachPairOfBytes(t *testing.T) {
	for a := range 256 {
		wantText(t, string([]byte{byte(a)}), `"`+told(a)+`"`)
		for b := range 256 {
			wantText(t, string([]byte{byte(a), byte(b)}), `"`+told(a)+told(b)+`"`)
		}
	}
}

// Letters of several bytes are bytes like others.
func TestTextGoesByBytes(t *testing.T) {
	wantText(t, "\u00e9", `"\u00c3\u00a9"`)
	wantText(t, "a\u20acb", `"a\u00e2\u0082\u00acb"`)
	wantText(t, "\U0001f375", `"\u00f0\u009f\u008d\u00b5"`)
	wantText(t, "\ufffd\xc3", `"\u00ef\u00bf\u00bd\u00c3"`)
}

// There and back: no two texts are told alike.
func TestTextIsReadAsItWas(t *testing.T) {
	all := make([]byte, 256)
	for i := range 256 {
		all[i] = byte(i)
	}
	back, err := strconv.Unquote(Text(string(all)))
	if err != nil {
		t.Fatal(err)
	}
	for i, r := range []rune(back) {
		if int(r) != i {
			t.Errorf("byte %d is read as %d", i, r)
		}
	}
}

func TestTextOfLongTexts(t *testing.T) {
	for _, n := range []int{255, 256, 257, 1 << 20} {
		wantText(t, strings.Repeat("x", n), `"`+strings.Repeat("x", n)+`"`)
		wantText(t, strings.Repeat("\x00", n), `"`+strings.Repeat(`\u0000`, n)+`"`)
		wantText(t, strings.Repeat(`"`, n), `"`+strings.Repeat(`\"`, n)+`"`)
	}
}

// R5: plain functions may be called from several goroutines at one time.
func TestSeveralGoroutines(t *testing.T) {
	var all sync.WaitGroup
	for range 8 {
		all.Go(func() {
			for range 500 {
				wantText(t, "a\"\\\x00", `"a\"\\\u0000"`)
				wantText(t, "tea", `"tea"`)
			}
		})
	}
	all.Wait()
}
