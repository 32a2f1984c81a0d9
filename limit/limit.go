// Package limit: what all layers ask of numbers.
package limit

// Within tells whether n is from least to most, both of them among it.
func Within(n, least, most int) bool { return n >= least && n <= most }
