// Package quote tells texts within quotes, for all packages whose answers tell some:
// see DOC.md, chapter 12.
package quote

import (
	"strings"
)

// hex are the digits of sixteen.
const hex = "0123456789abcdef"

// Text answers s within quotes. It goes by bytes and not by runes: a text may be any
// bytes, and each of them is told by itself.
func Text(s string) string {
	var out strings.Builder
	out.Grow(len(s) + 2)
	out.WriteByte('"')
	for i := range len(s) {
		putByte(&out, s[i])
	}
	out.WriteByte('"')
	return out.String()
}

func putByte(out *strings.Builder, b byte) {
	switch {
	case b == '"' || b == '\\':
		out.WriteByte('\\')
		out.WriteByte(b)
	case b < 32 || b >= 127:
		out.WriteString(`\u00`)
		out.WriteByte(hex[b>>4])
		out.WriteByte(hex[b&15])
	default:
		out.WriteByte(b)
	}
}
