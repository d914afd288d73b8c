// Package names is layer 1: see shared/doc/01-names.md.
package names

import (
	"slices"
	"strings"

	"lineage/api"
)

// Name tells whether a text is a name.
func Name(s string) bool {
	if s == "" || len(s) > api.MaxName {
		return false
	}
	for i, r := range s {
		if !opens(r) && (i == 0 || !follows(r)) {
			return false
		}
	}
	return true
}

// Dotted tells whether a text is a scope's name.
func Dotted(s string) bool {
	for range api.MaxParts {
		piece, rest, more := cut(s)
		if !Name(piece) {
			return false
		}
		if !more {
			return true
		}
		s = rest
	}
	return false
}

// Parts are the names of a scope's name.
func Parts(s string) []string {
	if !Dotted(s) {
		return nil
	}
	var parts []string
	for {
		piece, rest, more := cut(s)
		// An answer shares no memory with an argument, so the piece is copied.
		parts = append(parts, strings.Clone(piece))
		if !more {
			return parts
		}
		s = rest
	}
}

// Under tells whether a scope's name stands under another one.
func Under(s, of string) bool {
	below, above := Parts(s), Parts(of)
	if len(above) == 0 || len(above) > len(below) {
		return false
	}
	return slices.Equal(below[:len(above)], above)
}

// Compare holds two texts against each other, piece by piece.
func Compare(a, b string) int {
	for {
		pieceA, restA, moreA := cut(a)
		pieceB, restB, moreB := cut(b)
		// Pieces are compared as bytes: texts that are no UTF-8 have an order too, and as runes their wrong bytes would all be alike.
		if c := strings.Compare(pieceA, pieceB); c != 0 {
			return c
		}
		switch {
		case !moreA && !moreB:
			return 0
		case !moreA:
			return -1
		case !moreB:
			return 1
		}
		a, b = restA, restB
	}
}

// cut parts a text at its first dot; more tells whether there is one. A rune that is a dot is a byte that is one also in a text that is no UTF-8, as a wrong byte is gone over alone.
func cut(s string) (piece, rest string, more bool) {
	for i, r := range s {
		if r == '.' {
			return s[:i], s[i+1:], true
		}
	}
	return s, "", false
}

// opens tells whether a name may begin with a rune.
func opens(r rune) bool { return 'a' <= r && r <= 'z' }

// follows tells whether a rune that begins no name may stand inside one.
func follows(r rune) bool { return '0' <= r && r <= '9' || r == '-' || r == '_' }
