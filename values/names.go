package values

import "platen/api"

// Named tells whether a field may have that name (P8.1).
func Named(s string) bool {
	if s == "" || len(s) > api.MaxName || isDigit(s[0]) {
		return false
	}
	for i := range len(s) {
		if !isDigit(s[i]) && !isLetter(s[i]) && s[i] != '_' {
			return false
		}
	}
	return true
}

// Typed tells whether a type may have that name (P8.1).
func Typed(s string) bool {
	for i := range len(s) {
		if s[i] < 33 || s[i] > 126 {
			return false
		}
	}
	return len(s) <= api.MaxName
}

func isDigit(b byte) bool { return '0' <= b && b <= '9' }

func isLetter(b byte) bool { return 'a' <= b && b <= 'z' || 'A' <= b && b <= 'Z' }
