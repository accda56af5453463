// Package name says which texts are names, for all packages that ask for one: see
// DOC.md, chapter 11.
package name

import (
	"tattle/api"
)

// May tells whether s is a name: a letter or _, then letters, digits and _.
func May(s string) bool {
	if s == "" || len(s) > api.MaxName || digit(s[0]) {
		return false
	}
	for i := range len(s) {
		if !letter(s[i]) && !digit(s[i]) && s[i] != '_' {
			return false
		}
	}
	return true
}

// letter tells whether b is one of A to Z, a to z: no others are letters, whatever a
// text's bytes are together.
func letter(b byte) bool {
	return 'A' <= b && b <= 'Z' || 'a' <= b && b <= 'z'
}

func digit(b byte) bool {
	return '0' <= b && b <= '9'
}
