// Package label is layer 1: see shared/doc/01-label.md.
package label

import (
	"slices"
	"strings"

	"nomenclator/api"
)

// Lower: capitals A to Z turned small; other bytes as they are.
//
// It goes byte by byte: strings.ToLower would turn letters beyond ASCII too, and bytes that are no UTF-8.
func Lower(s string) string {
	b := []byte(s)
	for i, c := range b {
		if 'A' <= c && c <= 'Z' {
			b[i] = c - 'A' + 'a'
		}
	}
	return string(b)
}

// Right: may it be a label: 1 to MaxLabel of letters, digits, -, _; neither its first nor its last sign is -?
func Right(s string) bool {
	if len(s) < 1 || len(s) > api.MaxLabel {
		return false
	}
	for i := range len(s) {
		if !stands(s[i]) {
			return false
		}
	}
	return s[0] != '-' && s[len(s)-1] != '-'
}

// stands: may a byte stand in a label?
func stands(c byte) bool {
	switch {
	case 'A' <= c && c <= 'Z', 'a' <= c && c <= 'z', '0' <= c && c <= '9':
		return true
	}
	return c == '-' || c == '_'
}

// Split: a name's labels, the points between left out.
func Split(s string) []string { return strings.Split(s, ".") }

// Join: labels with points between.
func Join(l ...string) string { return strings.Join(l, ".") }

// Under: is a name one of a domain, or that: do its last labels say the domain, capitals counting as small letters? Every name is under ".".
func Under(name, domain string) bool {
	// By Split it would be two empty labels, and a name without a point at its end not under it.
	if domain == "." {
		return true
	}
	n, d := Split(Lower(name)), Split(Lower(domain))
	return len(d) <= len(n) && slices.Equal(n[len(n)-len(d):], d)
}

// Count: how many labels a domain has; 0 of ".".
func Count(domain string) int {
	if domain == "." {
		return 0
	}
	return len(Split(domain))
}
