// Package handle is layer 1: handles, the names of objects, and lists of them; see shared/doc/01-handle.md.
package handle

import (
	"iter"
	"slices"
	"strings"

	"bedside/api"
)

// none is the text of an empty list; it can't be mistaken for a handle, as none begins with it.
const none = "-"

// May tells whether s is a handle.
func May(s string) bool {
	if s == "" || len(s) > api.MaxHandle {
		return false
	}
	var before rune
	for i, c := range s {
		if i == 0 && !isLetter(c) || !isLater(c) || c == '.' && before == '.' {
			return false
		}
		before = c
	}
	return before != '.'
}

func isLetter(c rune) bool {
	return 'a' <= c && c <= 'z'
}

func isLater(c rune) bool {
	return isLetter(c) || '0' <= c && c <= '9' || c == '.' || c == '_' || c == '-'
}

// Compare gives -1, 0 or 1: a is less than b, equal to it, or greater, byte by byte.
func Compare(a, b string) int {
	return strings.Compare(a, b)
}

// Parts gives what stands between the dots of a handle, and nothing of any other string.
func Parts(s string) []string {
	if !May(s) {
		return nil
	}
	return slices.Collect(pieces(s, '.'))
}

// pieces goes through what stands between the marks in s, one piece after another, so that a long text is given up at its first fault. A mark is an ASCII character: bytes that are no UTF-8 stay within their piece.
func pieces(s string, mark rune) iter.Seq[string] {
	return func(yield func(string) bool) {
		start := 0
		for i, c := range s {
			if c != mark {
				continue
			}
			if !yield(s[start:i]) {
				return
			}
			start = i + 1
		}
		yield(s[start:])
	}
}

// Rising tells whether each string of the list is less than the next one.
func Rising(l []string) bool {
	for i := 1; i < len(l); i++ {
		if l[i-1] >= l[i] {
			return false
		}
	}
	return true
}

// Sort gives the strings of the list, ascending, each once.
func Sort(l []string) []string {
	own := make([]string, len(l))
	copy(own, l)
	return settle(own)
}

// settle sorts a list of the package's own in place; the list is not to be used any more, only what is returned.
func settle(own []string) []string {
	slices.Sort(own)
	return slices.Compact(own)
}

// Merge gives the strings of both lists, ascending, each once.
func Merge(a, b []string) []string {
	own := make([]string, len(a)+len(b))
	copy(own, a)
	copy(own[len(a):], b)
	return settle(own)
}

// Without gives the strings of a that b has not, ascending, each once.
func Without(a, b []string) []string {
	gone := Sort(b)
	return slices.DeleteFunc(Sort(a), func(s string) bool {
		_, found := slices.BinarySearch(gone, s)
		return found
	})
}

// Text gives the text of a list of handles.
func Text(l []string) (string, api.Errno) {
	for _, h := range l {
		if !May(h) {
			return "", api.ErrHandle
		}
	}
	if len(l) == 0 {
		return none, api.OK
	}
	return strings.Join(l, " "), api.OK
}

// Parse gives the list of handles whose text is s.
func Parse(s string) ([]string, api.Errno) {
	if s == none {
		return nil, api.OK
	}
	var l []string
	for h := range pieces(s, ' ') {
		if !May(h) {
			return nil, api.ErrHandle
		}
		l = append(l, h)
	}
	return l, api.OK
}
