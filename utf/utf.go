// Package utf is layer 1: which bytes are characters. See shared/doc/01-utf.md.
package utf

import (
	"strings"
	"unicode/utf8"

	"hopscotch/api"
)

// span is a row of numbers, both bounds included.
type span struct{ first, last rune }

// characters are the numbers that XML takes for characters: fewer than UTF-8 has bytes for.
var characters = [...]span{{0x9, 0xA}, {0xD, 0xD}, {0x20, 0xD7FF}, {0xE000, 0xFFFD}, {0x10000, 0x10FFFF}}

// Next tells the first character of a text.
func Next(s string) (c rune, n int, e api.Errno) {
	if s == "" {
		return 0, 0, api.OK
	}
	c, n = utf8.DecodeRuneInString(s)
	if !begins(s, c) {
		return 0, 0, api.ErrUTF
	}
	return c, n, api.OK
}

// Put tells a character's bytes.
func Put(c rune) string {
	if !isCharacter(c) {
		return ""
	}
	return string(c)
}

// Valid tells whether a text is characters.
func Valid(s string) (int, api.Errno) {
	_, size := leading(s)
	if size < len(s) {
		return size, api.ErrUTF
	}
	return 0, api.OK
}

// Count tells how many characters a text has.
func Count(s string) int {
	count, _ := leading(s)
	return count
}

// leading tells how many characters stand at the beginning of s, one behind the other, and how many bytes they are.
func leading(s string) (count, size int) {
	for at, c := range s {
		if !begins(s[at:], c) {
			return count, at
		}
		count++
	}
	return count, len(s)
}

// begins tells whether s, of which c was decoded, does begin with a character.
// Bytes that are none are decoded as utf8.RuneError, which is a character itself: only its own bytes tell the two apart.
func begins(s string, c rune) bool {
	if c == utf8.RuneError {
		return strings.HasPrefix(s, string(c))
	}
	return isCharacter(c)
}

// isCharacter tells whether c is a character's number.
func isCharacter(c rune) bool {
	for _, b := range characters {
		if b.first <= c && c <= b.last {
			return true
		}
	}
	return false
}
