package concept

import (
	"isagoge/api"
)

// tokens returns the tokens of s, and gives up at a byte that belongs to none.
func tokens(s string) []string {
	var list []string
	for at := 0; at < len(s); {
		end := tokenEnd(s, at)
		if s[at] != ' ' {
			list = append(list, s[at:end])
		}
		at = end
	}
	return list
}

// tokenEnd returns the end of the token, or of the blank, that begins at a
// position of s.
func tokenEnd(s string, at int) int {
	switch first := s[at]; {
	case first == ' ' || first == '(' || first == ')' || first == '-':
		return at + 1
	case !isLetter(first):
		panic(api.ErrText)
	}
	end := at + 1
	for end < len(s) && inWord(s[end]) {
		end++
	}
	return end
}

// isWord reports whether s is a letter, followed by letters, digits and
// underscores.
func isWord(s string) bool {
	if s == "" || !isLetter(s[0]) {
		return false
	}
	for i := range len(s) {
		if !inWord(s[i]) {
			return false
		}
	}
	return true
}

func isLetter(b byte) bool {
	return 'a' <= b && b <= 'z' || 'A' <= b && b <= 'Z'
}

// inWord reports whether b may follow the first letter of a word.
func inWord(b byte) bool {
	return isLetter(b) || '0' <= b && b <= '9' || b == '_'
}

// reserved reports whether a word has a meaning of its own in strings.
func reserved(word string) bool {
	switch word {
	case "top", "bot", "not", "and", "or", "some", "all", "concept", "role", "ind":
		return true
	}
	return false
}
