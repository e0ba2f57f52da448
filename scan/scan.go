// Package scan divides strings into tokens, for all layers that read strings.
package scan

import (
	"strings"
)

// Tokens returns the tokens of s, and false if a byte of s belongs to none: the
// tokens are words, and each byte of marks by itself. Blanks are left out.
func Tokens(s, marks string) ([]string, bool) {
	var list []string
	for at := 0; at < len(s); {
		end := tokenEnd(s, at, marks)
		if end == at {
			return nil, false
		}
		if s[at] != ' ' {
			list = append(list, s[at:end])
		}
		at = end
	}
	return list, true
}

// tokenEnd returns the end of the token, or of the blank, that begins at a
// position of s: the position itself if there is none.
func tokenEnd(s string, at int, marks string) int {
	first := s[at]
	if first == ' ' || strings.IndexByte(marks, first) >= 0 {
		return at + 1
	}
	if !isLetter(first) {
		return at
	}
	end := at + 1
	for end < len(s) && inWord(s[end]) {
		end++
	}
	return end
}

// IsName reports whether s is a word that may be a name: a letter, followed by
// letters, digits and underscores, and not a reserved word.
func IsName(s string) bool {
	return isWord(s) && !reserved(s)
}

func isWord(s string) bool {
	if s == "" || !isLetter(s[0]) {
		return false
	}
	for i := range len(s) {
		if !inWord(s[i]) {
			return false
		}
	}
	return true
}

func isLetter(b byte) bool {
	return 'a' <= b && b <= 'z' || 'A' <= b && b <= 'Z'
}

// inWord reports whether b may follow the first letter of a word.
func inWord(b byte) bool {
	return isLetter(b) || '0' <= b && b <= '9' || b == '_'
}

// reserved reports whether a word has a meaning of its own in strings.
func reserved(word string) bool {
	switch word {
	case "top", "bot", "not", "and", "or", "some", "all", "concept", "role", "ind":
		return true
	}
	return false
}
