// Package octet is layer 1: see shared/doc/01-octet.md.
package octet

import "postern/api"

// Class is the classes of a byte.
func Class(b byte) int {
	switch {
	case b < ' ' || b == 127:
		return api.ClassControl
	case b > 127:
		return api.ClassHigh
	case b == ' ':
		return api.ClassSpace
	case isDigit(b):
		return api.ClassDigit | api.ClassHex
	case isUpper(b):
		return api.ClassUpper | hexClass(b <= 'F')
	case isLower(b):
		return api.ClassLower | hexClass(b <= 'f')
	}
	return api.ClassSign
}

// Of is the classes of all bytes of a text.
func Of(s string) int {
	classes := 0
	for i := range len(s) {
		classes |= Class(s[i])
	}
	return classes
}

// Lower is a text with small letters.
func Lower(s string) string {
	l := []byte(s)
	for i, b := range l {
		if isUpper(b) {
			l[i] = b - 'A' + 'a'
		}
	}
	return string(l)
}

// Upper is a text with great letters.
func Upper(s string) string {
	l := []byte(s)
	for i, b := range l {
		if isLower(b) {
			l[i] = b - 'a' + 'A'
		}
	}
	return string(l)
}

// Fold tells whether two texts are the same but for the size of letters.
func Fold(a, b string) bool { return Lower(a) == Lower(b) }

func isDigit(b byte) bool { return '0' <= b && b <= '9' }

func isUpper(b byte) bool { return 'A' <= b && b <= 'Z' }

func isLower(b byte) bool { return 'a' <= b && b <= 'z' }

func hexClass(is bool) int {
	if is {
		return api.ClassHex
	}
	return 0
}
