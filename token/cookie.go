package token

import (
	"iter"
	"strings"
)

const (
	blanks    = " \t"
	equals    = "="
	separator = ";"
)

// Cookie returns the value of a Set-Cookie field.
func Cookie(name, value string) string {
	return name + equals + value + "; Path=/; HttpOnly"
}

// Find returns the value of the first pair with the name in the values of Cookie fields, or false if there is none.
func Find(l []string, name string) (string, bool) {
	start := name + equals
	for pair := range pairs(l) {
		if value, ok := strings.CutPrefix(pair, start); ok {
			return value, true
		}
	}
	return "", false
}

// pairs iterates the pairs of all values, in order and without the blanks around them.
func pairs(l []string) iter.Seq[string] {
	return func(yield func(string) bool) {
		for _, value := range l {
			for pair := range strings.SplitSeq(value, separator) {
				if !yield(strings.Trim(pair, blanks)) {
					return
				}
			}
		}
	}
}
