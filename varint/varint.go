// Package varint tells numbers and texts as bytes: see DOC.md, chapter 1.
package varint

import (
	"strings"

	"tattle/api"
)

const (
	bits = 7
	more = 1 << bits
	// Nine bytes of seven bits hold just the 63 bits of a number from 0 on,
	// so no shift of Get can reach the sign.
	maxBytes = 9
)

// Put tells x in as few bytes as may be, the lowest bits first.
func Put(x int) (string, api.Errno) {
	if x < 0 {
		return "", api.ErrVarintForm
	}
	out := make([]byte, 0, maxBytes)
	for x >= more {
		out = append(out, byte(x%more)|more)
		x >>= bits
	}
	return string(append(out, byte(x))), api.OK
}

// Get reads the number that begins at the place at, and tells where it ends.
func Get(s string, at int) (int, int, api.Errno) {
	if at < 0 || at > len(s) {
		return 0, 0, api.ErrVarintForm
	}
	x := 0
	for i := range maxBytes {
		if at+i == len(s) {
			return 0, 0, api.ErrVarintCut
		}
		b := s[at+i]
		x |= int(b%more) << (bits * i)
		if b >= more {
			continue
		}
		// A last 0 behind others adds nothing: Put would have told x without it.
		if b == 0 && i > 0 {
			return 0, 0, api.ErrVarintForm
		}
		return x, at + i + 1, api.OK
	}
	return 0, 0, api.ErrVarintForm
}

// PutText tells the length of s, then s.
func PutText(s string) (string, api.Errno) {
	if len(s) > api.MaxText {
		return "", api.ErrVarintForm
	}
	head, err := Put(len(s))
	if err != api.OK {
		return "", err
	}
	return head + s, api.OK
}

// GetText reads the text whose length begins at the place at, and tells where it ends.
func GetText(s string, at int) (string, int, api.Errno) {
	length, start, err := Get(s, at)
	if err != api.OK {
		return "", 0, err
	}
	if length > api.MaxText {
		return "", 0, api.ErrVarintForm
	}
	if length > len(s)-start {
		return "", 0, api.ErrVarintCut
	}
	end := start + length
	// A piece of s would share its memory (R4), and keep all of it alive.
	return strings.Clone(s[start:end]), end, api.OK
}
