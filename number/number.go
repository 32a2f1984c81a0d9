// Package number: how all layers read a number.
package number

import "strconv"

// Read holds the number against its text, for Atoi also takes what Itoa never writes: +1, 01, -0.
func Read(s string) (int, bool) {
	n, err := strconv.Atoi(s)
	if err != nil || strconv.Itoa(n) != s {
		return 0, false
	}
	return n, true
}
