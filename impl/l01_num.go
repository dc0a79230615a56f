package impl

import (
	"strconv"
	"strings"
)

const (
	greatestNumber  = 999999
	greatestInteger = 999999999999
	maxResultBytes  = 1048576
)

func FormatInt(n int) string { return strconv.Itoa(n) }

func ParseNumber(s string) (int, bool) {
	// A recovered panic leaves both results zero, which is what the caller gets for a malformed integer.
	defer func() { recover() }()
	return readInteger(s, 0, greatestNumber), true
}

func ParseInt(s string) (int, bool) {
	// As in ParseNumber.
	defer func() { recover() }()
	return readInteger(s, -greatestInteger, greatestInteger), true
}

// readInteger panics if s does not represent an integer from least to greatest.
func readInteger(s string, least int, greatest int) int {
	n, err := strconv.Atoi(s)
	if err != nil || n < least || n > greatest {
		panic("malformed integer")
	}
	// Atoi also accepts "+1", "007" and "-0", which no integer is formatted as.
	if FormatInt(n) != s {
		panic("malformed integer")
	}
	return n
}

func SplitByte(s string, by byte) []string {
	var parts []string
	for {
		i := strings.IndexByte(s, by)
		if i < 0 {
			return append(parts, s)
		}
		parts = append(parts, s[:i])
		s = s[i+1:]
	}
}

func Join(list []string, by string) string {
	if !joinFits(list, by) {
		return ""
	}
	return strings.Join(list, by)
}

// joinFits stops at the limit, so that the sum of the lengths cannot overflow.
func joinFits(list []string, by string) bool {
	size := 0
	for i, s := range list {
		if i > 0 {
			size += len(by)
		}
		size += len(s)
		if size > maxResultBytes {
			return false
		}
	}
	return true
}
